/- Walks and mathematics that several claims share, part 11. -/
import Derived.Test.YthkagbnpcjidfaaGreatDoorGu9
import Derived.RangeFuncNested
import Derived.RangeFuncBound
import Derived.RangeFuncCalls
import Derived.RangeFuncLeaves
import Derived.Shelf.Abstract
import Derived.Shelf.RegionOpen
import Derived.OwnWalkIn
import Derived.TacticsInMore
import Derived.LoopNIn
import Derived.LoopIn
import Derived.Lib.MinMax
import Derived.Deep.Cut
namespace Go.Proofs.YthkagbnpcjidfaaGreatDoor
set_option maxRecDepth 100000
open Go.RowKit Go.Shelf
attribute [local go_sem] Oper.semAt_some
theorem aBm (cs : Array Value) (w : World) (n : Nat) :
  CallsIn Fence.wide n Tryz.prog 92 #[.agg cs] w fun e w' => e = .returned (.func (.func 122) #[] #[.pointer (some ⟨w.heap.size, 0, none⟩)]) ∧ w' = w.alloc (.cells cs 27) := by
 refine callsIn_of_wp Tryz.func92 rfl trivial ?_ rfl
 simp only [Tryz.ntmps92, List.size_toArray, List.length_cons, List.length_nil, Nat.reduceAdd, Nat.reduceSub, Array.replicate_succ, Array.replicate_zero, List.push_toArray, List.append_toArray, List.nil_append, List.cons_append]
 gi_wp2
 go_ret
 exact ⟨rfl, rfl⟩
def L0 (xs : List Int) (l : List aA) (J Jx : List aA → World → Prop) (e : Ending) (W' : World) : Prop :=
 (∃ v, e = .returned v) ∧ ((∃ ys, ys = (if aE xs l = true then gV l l.length else []) ∧ J ys W') ∨ (∃ bJ : List aA, True ∧ Jx bJ W'))
theorem aCF {xs : List Int} {l : List aA} {J Jx : List aA → World → Prop} {v : Value} {W' : World} (h : aE xs l = false) (hJ : J [] W') : L0 xs l J Jx (.returned v) W' :=
 ⟨⟨_, rfl⟩, .inl ⟨[], by rw [h]; rfl, hJ⟩⟩
theorem aB7 {xs : List Int} {l : List aA} {J Jx : List aA → World → Prop} {v : Value} {W' : World} (h : aE xs l = true) (hJ : J (gV l l.length) W') : L0 xs l J Jx (.returned v) W' :=
 ⟨⟨_, rfl⟩, .inl ⟨_, by rw [if_pos h], hJ⟩⟩
theorem aBk {xs : List Int} {l : List aA} {J Jx : List aA → World → Prop} {v : Value} {W' : World} (bJ : List aA) (hJ : Jx bJ W') : L0 xs l J Jx (.returned v) W' :=
 ⟨⟨_, rfl⟩, .inr ⟨bJ, trivial, hJ⟩⟩
theorem aG7 {l : List aA} {k : Nat} (h : k < l.length) : l.getD k aA.zero ∈ l := by
 rw [List.getD_eq_getElem?_getD, List.getElem?_eq_getElem h]
 exact List.getElem_mem h
theorem below_grown {w w' : World} (h : Below w.heap.size w w') : w.grownBy w' none := ⟨h.os, h.tape, h.output, h.size, fun k hk _ => h.block k hk⟩
set_option maxHeartbeats 10000000 in
theorem aCG (n : Nat) (hn : 1 ≤ n) (lp Bc n₀ : Nat) (av ao : Option Addr) (nv cv no co : Nat) (xs : List Int) (l : List aA) (hv : nv ≤ 1048576) (hc : no ≤ co) (dP : Fits no co)
  (J Jx : List aA → World → Prop) (hJ : ∀ s W W', J s W → W.grownBy W' none → J s W')
  (hY : ∀ bJ x W, J bJ W → bJ.length < l.length → x ∈ l → YieldAt Fence.wide (n - 1) Tryz.prog lp #[aA.val x] W fun e W' => (e = .returned (.bool true) ∧ J (bJ ++ [x]) W' ∧ Below n₀ W W') ∨ (e = .returned (.bool false) ∧ Jx (bJ ++ [x]) W'))
  (W : World) (hBc : W.heap[Bc]? = some (.cells #[.slice av nv cv, .slice ao no co] 27 (0, 0))) (hx : Ints W n₀ av nv xs) (h : bP W n₀ ao no l) (Z5 : n₀ ≤ W.heap.size) (h0 : J [] W) :
  CallsIn Fence.wide n Tryz.prog 122 #[.func (.yield lp) #[] #[], .pointer (some ⟨Bc, 0, none⟩)] W (L0 xs l J Jx) := by
 have yO : no ≤ 1048576 := dP.1
 have HX := aPo hx
 have HO := aPo h
 have HC := aPo hBc
 have HL := aPo h.1
 have HJ := aPo hJ
 have HY := aPo hY
 have H0 := aPo h0
 obtain ⟨c0, c1⟩ := pair_cells hBc
 clear hx h hBc hJ hY h0
 refine callsIn_of_wp Tryz.func122 rfl trivial ?_ rfl
 simp only [Tryz.ntmps122, List.size_toArray, List.length_cons, List.length_nil, Nat.reduceAdd, Nat.reduceSub, Array.replicate_succ, Array.replicate_zero, List.push_toArray, List.append_toArray, List.nil_append, List.cons_append]
 gi_wp2_with fail
 refine ⟨trivial, (callsIn_wide.2 (iZ W n₀ av ao nv cv no co xs l HX.out HO.out Z5 hv hc dP)).mono ?_⟩
 rintro e w1 ⟨rfl, hb⟩
 have HJ1 := aPo (HJ.out _ _ _ H0.out (below_grown hb))
 have dD := aPo (HO.out.below hb Z5)
 have D1 := aPo ((hb.block _ (aPp HC.out).1).trans HC.out)
 have eZ := hb.size
 clear hb c0 c1 H0 HX HO HC
 obtain ⟨c0, c1⟩ := pair_cells D1.out
 rcases hcb : aE xs l with _ | _
 ·have tK := aPo hcb
  clear hcb
  gi_wp2
  refine bodyPost_ret (results_none rfl _ _ _) rfl ?_
  exact aCF tK.out HJ1.out
 have jU := aPo hcb
 clear hcb
 gi_wp2
 gi_loopw [11] (fun i wr => ∃ k : Nat, k ≤ no ∧ i = .int .i64 k ∧ Hid (J (gV l k) wr) ∧ Hid (bP wr n₀ ao no l) ∧ Hid (n₀ ≤ wr.heap.size)) (fun i _ => no - (intOf i).toNat)
 case atStart => exact ⟨0, Nat.zero_le _, rfl, HJ1, dD, by show n₀ ≤ _; omega⟩
 case round =>
  obtain ⟨k, hk, rfl, HJs, HOs, HNs⟩ := hrel; clear HJ1 dD D1 c0 c1
  by_cases aJ : k < no
  rotate_left
  ·obtain rfl : k = no := by omega
   gi_wp2
   go_end0
   exact aB7 jU.out (by rw [HL.out]; exact HJs.out)
  obtain ⟨b, off, rfl, hb, ho⟩ := HOs.out.2 k aJ; obtain ⟨c0, c1, c2, c3, c4, c5, c6, c7⟩ := ho; have aL2 := aPo (@I7 l k (by rw [HL.out]; exact aJ))
  have HNo := aPo (@Q9 l k (by rw [HL.out]; exact aJ))
  have HMm := aPo (aG7 (l := l) (k := k) (by rw [HL.out]; exact aJ))
  generalize l.getD k aA.zero = x at aL2 HNo HMm c0 c1 c2 c3 c4 c5 c6 c7
  gi_wp2_with fail
  have HX := aPo (bX (Below.refl _ (wr.alloc (.cells #[.int .i64 x.dev, .int .i64 x.seq, .int .i64 x.stamp, .int .i64 x.kind, .string x.item, .int .i64 x.qty, .int .i64 x.level, .int .i64 x.undos] 50)))); have bD : Below wr.heap.size wr (wr.alloc (.cells #[.int .i64 x.dev, .int .i64 x.seq, .int .i64 x.stamp, .int .i64 x.kind, .string x.item, .int .i64 x.qty, .int .i64 x.level, .int .i64 x.undos] 50)) := bl; generalize wr.alloc (.cells #[.int .i64 x.dev, .int .i64 x.seq, .int .i64 x.stamp, .int .i64 x.kind, .string x.item, .int .i64 x.qty, .int .i64 x.level, .int .i64 x.undos] 50) = w2 at HX bD ⊢; refine ⟨trivial, (callsIn_wide.2 (aIi x.dev x.seq x.stamp x.kind x.item x.qty x.level x.undos w2)).mono ?_⟩
  rintro e w3 ⟨rfl, aV⟩; have mD := aPo ((aV.block _ (aPp HX.out).1).trans HX.out); have aG : Below wr.heap.size wr w3 := bD.trans (aV.mono bD.size); have HJ3 := aPo (HJ.out _ _ _ HJs.out (below_grown aG)); have wD := aPo (HOs.out.below aG HNs.out); have nU : Hid (n₀ ≤ w3.heap.size) := Nat.le_trans HNs.out aG.size; clear bD aG aV HX HJs HOs HNs c0 c1 c2 c3 c4 c5 c6 c7; have ⟨d0, d1, d2, d3, d4, d5, d6, d7⟩ : wJ w3 wr.heap.size 0 x := ⟨aPr mD.out, aPr mD.out, aPr mD.out, aPr mD.out, aPr mD.out, aPr mD.out, aPr mD.out, aPr mD.out⟩; simp only [Nat.zero_add] at d0 d1 d2 d3 d4 d5 d6 d7
  have HLv : Hid (x.live = X5 x.dev x.seq x.stamp x.kind x.item x.qty x.level x.undos) := rfl; rcases hlv : X5 x.dev x.seq x.stamp x.kind x.item x.qty x.level x.undos with _ | _
  ·have HE := aPo (HNo.out (HLv.out.trans hlv))
   clear hlv
   gi_wp2
   refine ⟨fun _ h => (by cases h), ?_⟩
   gi_wp2
   go_roundw
   case rel => exact ⟨k + 1, by omega, by go_num, by rw [HE.out]; exact HJ3, wD, nU⟩
   case measure => simp [intOf]; omega
  ·have HE := aPo (aL2.out (HLv.out.trans hlv))
   clear hlv; have G8 := aPo (aAm l k); obtain ⟨fn, tmps, assign, body, hy, hR⟩ := HY.out _ x w3 HJ3.out (by have := G8.out; rw [HL.out]; omega) HMm.out
   unfold aA.val at hy; have HR := aPo hR; clear hR
   gi_wp2
   refine HR.out.mono ?_
   rintro e w4 (⟨rfl, hJ4, hk4⟩ | ⟨rfl, aLO⟩)
   ·have HJ4 := aPo hJ4
    have oW := aPo (wD.out.below hk4 aPq); have G7 : Hid (n₀ ≤ w4.heap.size) := Nat.le_trans nU.out hk4.size; clear hJ4 hk4
    gi_wp2
    go_roundw
    case rel => exact ⟨k + 1, by omega, by go_num, by rw [HE.out]; exact HJ4, oW, G7⟩
    case measure => simp [intOf]; omega
   ·have HJx := aPo aLO
    clear aLO
    gi_wp2
    refine bodyPost_ret (results_none rfl _ _ _) rfl ?_
    exact aBk _ HJx.out
end Go.Proofs.YthkagbnpcjidfaaGreatDoor
namespace Go.Proofs.YthkagbnpcjidfaaGreatDoor
set_option maxRecDepth 100000
open Go.RowKit Go.Shelf
attribute [local go_sem] Oper.semAt_some
def counted (xs : List Int) (l : List aA) : List aA := if aE xs l = true then gV l l.length else []
theorem rZ {β : Type} (B : Nat) (t : TypeId) (f : β → Array Value) : Own (fun s W => W.heap[B]? = some (.cells (f s) t (0, 0))) := fun s X Y row hs hg jG =>
 (hg.block B (aPp hs).1 (fun e' => by obtain ⟨o, ho, hc⟩ := jG B e'.symm; rw [hs] at ho; cases ho; cases hc)).trans hs
theorem aAl (n : Nat) (hn : 1 ≤ n) (Bc n₀ : Nat) (av ao : Option Addr) (nv cv no co : Nat) (xs : List Int) (l : List aA) (hv : nv ≤ 1048576) (hc : no ≤ co) (dP : Fits no co)
  (w : World) (hBc : w.heap[Bc]? = some (.cells #[.slice av nv cv, .slice ao no co] 27 (0, 0))) (hx : Ints w n₀ av nv xs) (h : bP w n₀ ao no l) (Z5 : n₀ ≤ w.heap.size) :
  SeqStopsK Fence.wide n Tryz.prog 122 #[.pointer (some ⟨Bc, 0, none⟩)] (fun x : aA => #[aA.val x]) (Below n₀) (fun ys => ys = counted xs l) (fun _ => True) l.length w := fun lp J Jx W hW hJ _ hY h0 =>
 aCG n hn lp Bc n₀ av ao nv cv no co xs l hv hc dP J Jx (fun s A B hs hg => hJ s A B none hs hg (fun r e => by cases e)) (fun bJ x W hj hl _ => hY bJ x W hj hl) W ((hW.block _ (aPp hBc).1).trans hBc) (hx.below hW Z5) (h.below hW Z5) (Nat.le_trans Z5 hW.size) h0
set_option maxHeartbeats 10000000 in
theorem aCM (w : World) (B : Nat) (av ao : Option Addr) (nv cv no co : Nat) (xs : List Int) (l : List aA) (dev : Int) (hx : Ints w B av nv xs) (h : bP w B ao no l) (hB : B ≤ w.heap.size) (hv : nv ≤ 1048576) (hc : no ≤ co) (dP : Fits no co) :
  Calls Tryz.prog 66 #[.agg #[.slice av nv cv, .slice ao no co], .int .i64 dev] w fun e w' => e = .returned (.int .i64 (lastOf dev (counted xs l))) ∧ Below w.heap.size w w' := by
 have yO : no ≤ 1048576 := dP.1
 have HX := aPo (hx.more hB)
 have HO := aPo (h.more hB)
 clear hx h hB
 refine (callsIn_wide (n := 8)).1 ?_
 refine callsIn_of_wp_marks Tryz.func66 rfl trivial ?_ rfl
 simp only [Tryz.ntmps66, List.size_toArray, List.length_cons, List.length_nil, Nat.reduceAdd, Nat.reduceSub, Array.replicate_succ, Array.replicate_zero, List.push_toArray, List.append_toArray, List.nil_append, List.cons_append]
 gi_wp2_with fail
 refine ⟨trivial, (aBm _ _ _).mono ?_⟩
 rintro e w' ⟨rfl, rfl⟩
 have aG := ((Boxed.new (w.alloc (.cells #[.slice av nv cv, .slice ao no co] 27)) 2 (.int .i64 dev)).alloc (.cells #[.int .i64 0] 2)).alloc (.cells #[.slice av nv cv, .slice ao no co] 27)
 have aM := (Boxed.new ((w.alloc (.cells #[.slice av nv cv, .slice ao no co] 27)).alloc (.cells #[.int .i64 dev] 2)) 2 (.int .i64 0)).alloc (.cells #[.slice av nv cv, .slice ao no co] 27)
 have aV := bX (Below.refl _ ((((w.alloc (.cells #[.slice av nv cv, .slice ao no co] 27)).alloc (.cells #[.int .i64 dev] 2)).alloc (.cells #[.int .i64 0] 2)).alloc (.cells #[.slice av nv cv, .slice ao no co] 27)))
 have B2 : Below w.heap.size w ((((w.alloc (.cells #[.slice av nv cv, .slice ao no co] 27)).alloc (.cells #[.int .i64 dev] 2)).alloc (.cells #[.int .i64 0] 2)).alloc (.cells #[.slice av nv cv, .slice ao no co] 27)) := ((((Below.refl _ w).alloc aPq _).alloc (by simp) _).alloc (by simp; omega) _).alloc (by simp; omega) _
 have dC : ((((w.alloc (.cells #[.slice av nv cv, .slice ao no co] 27)).alloc (.cells #[.int .i64 dev] 2)).alloc (.cells #[.int .i64 0] 2)).alloc (.cells #[.slice av nv cv, .slice ao no co] 27)).heap.size = w.heap.size + 1 + 1 + 1 + 1 := by simp
 simp only [World.size_alloc] at aG aM aV
 gi_wp2
 generalize ((((w.alloc (.cells #[.slice av nv cv, .slice ao no co] 27)).alloc (.cells #[.int .i64 dev] 2)).alloc (.cells #[.int .i64 0] 2)).alloc (.cells #[.slice av nv cv, .slice ao no co] 27)) = W0 at aG aM aV B2 dC ⊢
 refine wpIn_rangeFunc_ownH rfl (by omega) (gf := 122) (lb := #[.pointer (some ⟨w.heap.size + 1 + 1 + 1, 0, none⟩)]) rfl trivial (enters_of Tryz.func122 (by kernel_rfl) rfl)
  (aAl _ (by omega) (w.heap.size + 1 + 1 + 1) w.heap.size av ao nv cv no co xs l hv hc dP W0 aV (HX.out.below B2 aPq) (HO.out.below B2 aPq) (by omega))
  belowK_t (belowK_b (by omega)) (Below.refl _ _) (fun _ => rfl)
  (fun bJ W => (Boxed W (w.heap.size + 1) 2 (.int .i64 dev) ∧ Boxed W (w.heap.size + 1 + 1) 2 (.int .i64 (lastOf dev bJ))) ∧ Below w.heap.size w W)
  (fun _ _ _ => False)
  (OwnFrom.and (OwnFrom.and (Own.from (boxed_own _ _ _) _) (Own.from (boxed_own _ _ (fun bJ => .int .i64 (lastOf dev bJ))) _)) (ownFrom_below aPq (by omega)))
  (fun _ _ _ _ _ hs _ _ => hs)
  ⟨⟨aG, aM⟩, B2⟩
  (fun x a' W => ∃ Bx, w.heap.size + 1 + 1 < Bx ∧ W.heap[Bx]? = some (.cells #[.int .i64 x.dev, .int .i64 x.seq, .int .i64 x.stamp, .int .i64 x.kind, .string x.item, .int .i64 x.qty, .int .i64 x.level, .int .i64 x.undos] 50 (0, 0)) ∧ a' = { tmps := #[.agg #[.slice av nv cv, .slice ao no co], .int .i64 dev, .pointer (some ⟨w.heap.size, 0, none⟩), .pointer (some ⟨w.heap.size + 1, 0, none⟩), .int .i64 0, .pointer (some ⟨w.heap.size + 1 + 1, 0, none⟩), .pointer (some ⟨Bx, 0, none⟩), .agg #[.slice av nv cv, .slice ao no co], .func (.func 122) #[] #[.pointer (some ⟨w.heap.size + 1 + 1 + 1, 0, none⟩)], aA.val x, undef, undef, undef, undef, undef, undef, undef, undef, undef], defers := [] })
  (fun x a' s A B row hs hg hr => by
   obtain ⟨Bx, h1, h2, h3⟩ := hs; exact ⟨Bx, h1, (rZ (β := Unit) Bx _ (fun _ => _)).from _ () A B row h2 hg hr, h3⟩) ?assign ?body ?done ?stop
 case assign =>
  rintro lp bJ x W K ⟨⟨h1, h2⟩, h3⟩ hK; unfold aA.val
  gi_wp2
  exact hK _ _ ((KeepsOthers.alloc _ _).from _) ((Below.refl _ W).alloc h3.size _) ⟨⟨h1.alloc _, h2.alloc _⟩, h3.alloc h3.size _⟩ ⟨W.heap.size, h2.lt, World.alloc_heap_new W _, rfl⟩
 case body =>
  rintro lp bJ x a' W hl ⟨r, hr⟩ ⟨⟨h1, h2⟩, h3⟩ ⟨Bx, hBx, hX, rfl⟩ mQ; have d0 := cell_of_row W Bx 0 _ _ _ hX; have d1 := cell_of_row W Bx 1 _ _ _ hX; simp only [List.getElem?_toArray, List.getElem?_cons_zero, List.getElem?_cons_succ] at d0 d1
  have g1 := h1.cell; have g2 := h2.cell; have g3 := h2.frozen; have H1 := aPo h1; have H2 := aPo h2; have H3 := aPo h3; have HS := aPo (Z0 dev bJ x); clear h1 h2 h3 hX hr
  by_cases hd : x.dev = dev
  ·have hb : (x.dev == dev) = true := by rw [hd]; exact beq_self_eq_true _
   have HE : Hid (lastOf dev (bJ ++ [x]) = max (lastOf dev bJ) x.seq) := by show _ = _; rw [HS.out, if_pos hd]
   clear hd HS
   gi_wp2
   exact ⟨(KeepsOthers.setCell _ _ _).from _, (Below.refl _ W).setCell (p := ⟨w.heap.size + 1 + 1, 0, none⟩) (by show _ ≤ w.heap.size + 1 + 1; omega) _, ⟨H1.out.other (by omega) _, by rw [HE.out]; exact H2.out.set _⟩, H3.out.setCell (p := ⟨w.heap.size + 1 + 1, 0, none⟩) (by show _ ≤ w.heap.size + 1 + 1; omega) _⟩
  ·have hb : (x.dev == dev) = false := by rw [beq_eq_false_iff_ne]; exact hd
   have HE : Hid (lastOf dev (bJ ++ [x]) = lastOf dev bJ) := by show _ = _; rw [HS.out, if_neg hd]
   clear hd HS
   gi_wp2
   exact ⟨KeepsFrom.refl _ _, Below.refl _ _, ⟨H1.out, by rw [HE.out]; exact H2.out⟩, H3.out⟩
 case done =>
  rintro D ys W hD rfl ⟨⟨h1, h2⟩, h3⟩ hK; have g2 := h2.cell
  gi_wp2
  refine ⟨by simp, .inl ⟨_, _, rfl, run_takeDeferred hK, ?_⟩⟩
  exact ⟨_, results_tmp rfl _ _ _, rfl, h3.trans (belowK_b (w := w) aPq W D _ _ (by omega) hK rfl rfl)⟩
 case stop =>
  rintro D c bJ W _ _ h _; exact h.elim
end Go.Proofs.YthkagbnpcjidfaaGreatDoor
namespace Go.Proofs.YthkagbnpcjidfaaGreatDoor
set_option maxRecDepth 100000
open Go.RowKit
set_option linter.unusedVariables false
set_option linter.unusedSimpArgs false
set_option maxHeartbeats 10000000 in
theorem aGI (w : World) (B : Nat) (av ao : Option Addr) (nv cv no co : Nat) (xs : List Int) (l : List aA) (dev : Int) (h : bP w B ao no l) (hB : B ≤ w.heap.size) (hn : no ≤ 1048576) (hc : aE xs l = true) : Calls Tryz.prog 87 #[.agg #[.slice av nv cv, .slice ao no co], .int .i64 dev] w fun e w' => e = .returned (.int .i64 (dE dev l l.length)) ∧ Below w.heap.size w w' := by
 have bD : Below w.heap.size w (w.alloc (.cells #[.slice av nv cv, .slice ao no co] 27)) := (Below.refl _ w).alloc aPq _
 have HO := aPo (h.below bD hB)
 have HB := aPo bD
 have HX := aPo (bX (Below.refl _ (w.alloc (.cells #[.slice av nv cv, .slice ao no co] 27))))
 have HL := aPo h.1
 have dC : w.heap.size < (w.alloc (.cells #[.slice av nv cv, .slice ao no co] 27)).heap.size := by show _ < (w.heap.push _).size; simp
 have HC : Hid (∀ k, k < no → 0 ≤ (l.getD k aA.zero).undos) := fun k hk => by
  obtain ⟨_, _, _, _, _, hok, _, _⟩ := gE hc (i := k) (by rw [h.1]; exact hk)
  exact (H7 hok).1
 clear h bD hc
 go_enter Tryz.func87, Tryz.ntmps87
 go_wp2_with fail
 generalize w.alloc (.cells #[.slice av nv cv, .slice ao no co] 27) = w0 at HO HB HX dC ⊢
 go_wp2
 go_loopw [5, 6] (fun n i wr => ∃ k : Nat, k ≤ no ∧ i = .int .i64 k ∧ n = .int .i64 (dE dev l k) ∧ Hid (Below w0.heap.size w0 wr)) (fun _ i _ => no - (intOf i).toNat)
 case atStart => exact ⟨0, Nat.zero_le _, rfl, rfl, Below.refl _ _⟩
 case round =>
  obtain ⟨k, hk, rfl, rfl, cW⟩ := hrel; obtain ⟨c0, c1⟩ := pair_cells ((cW.out.block _ dC).trans HX.out)
  by_cases aJ : k < no
  rotate_left
  ·obtain rfl : k = no := by omega
   go_wp2
   go_ret
   exact ⟨by rw [HL.out]; rfl, HB.out.trans (cW.out.mono HB.out.size)⟩
  obtain ⟨b, off, rfl, hb, ho⟩ := HO.out.2 k aJ; obtain ⟨d0, d1, d2, d3, d4, d5, d6, d7⟩ := ho.kept (cW.out.block b (by omega))
  have M9 := HC.out k aJ; have HU : Hid (dE dev l (k + 1) = if (l.getD k aA.zero).dev = dev ∧ (l.getD k aA.zero).undos % 2 = 0 then (l.getD k aA.zero).seq else dE dev l k) := rfl; have dD := aPo ho; clear ho; generalize l.getD k aA.zero = x at HU M9 d0 d1 d2 d3 d4 d5 d6 d7 dD
  by_cases hd : x.dev = dev
  rotate_left
  ·have hbq : (x.dev == dev) = false := by rw [beq_eq_false_iff_ne]; exact hd
   have HE : Hid (dE dev l (k + 1) = dE dev l k) := by show _ = _; rw [HU.out, if_neg (fun h => hd h.1)]
   clear hd HU; go_wp2
   go_roundw
   case rel => exact ⟨k + 1, by omega, by go_num, by rw [HE.out], cW⟩
   case measure => simp [intOf]; omega
  have hbq : (x.dev == dev) = true := by rw [hd]; exact beq_self_eq_true _
  have HD := aPo hd; clear hd
  go_wp2_with fail
  refine (aCO x.dev x.seq x.stamp x.kind x.item x.qty x.level x.undos _ M9).mono ?_
  rintro e w2 ⟨rfl, aM⟩; have bT := aPo (cW.out.trans (aM.mono cW.out.size)); clear aM c0 c1 d0 d1 d2 d3 d4 d5 d6 d7; obtain ⟨c0, c1⟩ := pair_cells ((bT.out.block _ dC).trans HX.out); obtain ⟨d0, d1, d2, d3, d4, d5, d6, d7⟩ := dD.out.kept (bT.out.block b (by omega))
  by_cases hu : x.undos % 2 = 0
  ·have hq : decide (x.undos % 2 = 0) = true := decide_eq_true hu
   have HE : Hid (dE dev l (k + 1) = x.seq) := by show _ = _; rw [HU.out, if_pos ⟨HD.out, hu⟩]
   rw [hq]; clear hu hq HU; go_wp2
   go_roundw
   case rel => exact ⟨k + 1, by omega, by go_num, by rw [HE.out], bT⟩
   case measure => simp [intOf]; omega
  ·have hq : decide (x.undos % 2 = 0) = false := decide_eq_false hu
   have HE : Hid (dE dev l (k + 1) = dE dev l k) := by show _ = _; rw [HU.out, if_neg (fun h => hu h.2)]
   rw [hq]; clear hu hq HU; go_wp2
   go_roundw
   case rel => exact ⟨k + 1, by omega, by go_num, by rw [HE.out], bT⟩
   case measure => simp [intOf]; omega
def aML (l : List aA) (dev seq : Int) (w : World) (e : Ending) (w' : World) : Prop :=
 w = w' ∧ ((∃ i : Nat, i < l.length ∧ (aC l i).dev = dev ∧ (aC l i).seq = seq ∧ e = .returned (.int .i64 (i : Int))) ∨ ((∀ i, i < l.length → ¬ ((aC l i).dev = dev ∧ (aC l i).seq = seq)) ∧ e = .returned (.int .i64 (-1))))
set_option maxHeartbeats 10000000 in
theorem aJn (w : World) (B : Nat) (ao : Option Addr) (no co : Nat) (l : List aA) (dev seq : Int) (h : bP w B ao no l) (hn : no ≤ 1048576) : Calls Tryz.prog 118 #[.slice ao no co, .int .i64 dev, .int .i64 seq] w (aML l dev seq w) := by
 have HO := aPo h
 have HL := aPo h.1
 clear h
 go_enter Tryz.func118, Tryz.ntmps118
 go_wp2
 go_loop [7] (fun i => ∃ k : Nat, k ≤ no ∧ i = .int .i64 k ∧ Hid (∀ j, j < k → ¬ ((aC l j).dev = dev ∧ (aC l j).seq = seq))) (fun i => no - (intOf i).toNat)
 case atStart => exact ⟨0, Nat.zero_le _, rfl, fun j hj => by omega⟩
 case round =>
  obtain ⟨k, hk, rfl, HN⟩ := hrel
  by_cases aJ : k < no
  rotate_left
  ·obtain rfl : k = no := by omega
   go_wp2
   go_ret
   exact ⟨rfl, .inr ⟨by rw [HL.out]; exact HN.out, rfl⟩⟩
  obtain ⟨b, off, rfl, hb, ho⟩ := HO.out.2 k aJ; obtain ⟨d0, d1, _⟩ := ho; have HA : Hid (l.getD k aA.zero = aC l k) := rfl; rw [HA.out] at d0 d1
  by_cases hd : (aC l k).dev = dev ∧ (aC l k).seq = seq
  ·have HD := aPo hd
   have b1 : ((aC l k).dev == dev) = true := by rw [hd.1]; exact beq_self_eq_true _
   have b2 : ((aC l k).seq == seq) = true := by rw [hd.2]; exact beq_self_eq_true _
   clear hd; generalize hx : aC l k = x at b1 b2 d0 d1; have HXe := aPo hx; clear hx; go_wp2
   go_ret
   exact ⟨rfl, .inl ⟨k, by rw [HL.out]; exact aJ, HD.out.1, HD.out.2, rfl⟩⟩
  ·have lN : Hid (∀ j, j < k + 1 → ¬ ((aC l j).dev = dev ∧ (aC l j).seq = seq)) := fun j hj => by
    rcases Nat.lt_or_ge j k with h1 | h1
    ·exact HN.out j h1
    ·obtain rfl : j = k := by omega
     exact hd
   by_cases h1 : (aC l k).dev = dev
   ·have h2 : ¬ (aC l k).seq = seq := fun h => hd ⟨h1, h⟩
    have b1 : ((aC l k).dev == dev) = true := by rw [h1]; exact beq_self_eq_true _
    have b2 : ((aC l k).seq == seq) = false := by rw [beq_eq_false_iff_ne]; exact h2
    clear hd h1 h2; generalize aC l k = x at b1 b2 d0 d1; go_wp2
    go_round
    case rel => exact ⟨k + 1, by omega, by go_num, lN⟩
    case measure => simp [intOf]; omega
   ·have b1 : ((aC l k).dev == dev) = false := by rw [beq_eq_false_iff_ne]; exact h1
    clear hd h1; generalize aC l k = x at b1 d0 d1; go_wp2
    go_round
    case rel => exact ⟨k + 1, by omega, by go_num, lN⟩
    case measure => simp [intOf]; omega
def qM (xs : List Int) (d : Nat) (l : List aA) : Int := if dE (d : Int) l l.length + 1 ≤ xs.getD d 0 then dE (d : Int) l l.length + 1 else 0
set_option maxHeartbeats 10000000 in
theorem aLd (w : World) (B : Nat) (av ao : Option Addr) (nv cv no co : Nat) (xs : List Int) (l : List aA) (d : Nat) (hd : d < 4) (h : bP w B ao no l) (hB : B ≤ w.heap.size) (hn : no ≤ 1048576) (hc : aE xs l = true) : Calls Tryz.prog 88 #[.agg #[.slice av nv cv, .slice ao no co], .int .i64 (d : Int)] w fun e w' => e = .returned (.int .i64 (qM xs d l)) ∧ Below w.heap.size w w' := by
 have bD : Below w.heap.size w (w.alloc (.cells #[.slice av nv cv, .slice ao no co] 27)) := (Below.refl _ w).alloc aPq _
 have HO := aPo (h.below bD hB)
 have HB := aPo bD
 have HX := aPo (bX (Below.refl _ (w.alloc (.cells #[.slice av nv cv, .slice ao no co] 27))))
 have HL := aPo h.1
 have dC : w.heap.size < (w.alloc (.cells #[.slice av nv cv, .slice ao no co] 27)).heap.size := by show _ < (w.heap.push _).size; simp
 have HC := aPo hc
 have HR := aPo (aEp hc d l.length aPq)
 have HH := aPo (fun (n : Int) hn => aHn hc hd (n := n) hn)
 have cX := HR.out.1
 have dU := HR.out.2
 have HRe : Hid (qM xs d l = if dE (d : Int) l l.length + 1 ≤ xs.getD d 0 then dE (d : Int) l l.length + 1 else 0) := rfl
 clear h bD hc
 obtain ⟨c0, c1⟩ := pair_cells HX.out
 go_enter Tryz.func88, Tryz.ntmps88
 go_wp2_with fail
 generalize w.alloc (.cells #[.slice av nv cv, .slice ao no co] 27) = w0 at HO HB HX dC c0 c1 ⊢
 refine (aGI w0 B av ao nv cv no co xs l (d : Int) HO.out (by omega) hn HC.out).mono ?_
 rintro e w2 ⟨rfl, aM⟩
 have pU := aPo ((aM.block _ dC).trans HX.out)
 have gR := aPo (HO.out.below aM (by omega))
 have bT := aPo (HB.out.trans (aM.mono HB.out.size))
 clear aM c0 c1 HX HO HB
 obtain ⟨c0, c1⟩ := pair_cells pU.out
 generalize dE (d : Int) l l.length = u at cX dU HRe ⊢
 go_wp2_with fail
 refine (aJn w2 B ao no co l (d : Int) (u + 1) gR.out hn).mono ?_
 rintro e w' ⟨rfl, ⟨i, hi, h1, h2, rfl⟩ | ⟨hM, rfl⟩⟩
 ·have HE : Hid (qM xs d l = u + 1) := by show _ = _; rw [HRe.out, if_pos ((HH.out (u + 1) (by omega)).2 ⟨i, hi, h1, h2⟩)]
  clear hi h1 h2; have aJ : decide ((i : Int) < 0) = false := decide_eq_false (by omega)
  go_wp2
  go_ret
  exact ⟨by rw [HE.out]; rfl, bT.out⟩
 ·have HE : Hid (qM xs d l = 0) := by
   show _ = _
   rw [HRe.out, if_neg (fun h => by
    obtain ⟨i, hi, h1, h2⟩ := (HH.out (u + 1) (by omega)).1 h
    exact hM i hi ⟨h1, h2⟩)]
  clear hM; go_wp2
  go_ret
  exact ⟨by rw [HE.out]; rfl, bT.out⟩
def cL.cells (s : cL) : Array Value := #[.int .i64 s.level, .int .i64 s.counted.dev, .int .i64 s.counted.seq, .int .i64 s.counted.stamp, .int .i64 s.counted.kind, .string s.counted.item, .int .i64 s.counted.qty, .int .i64 s.counted.level, .int .i64 s.counted.undos, .int .i64 s.placed.dev, .int .i64 s.placed.seq, .int .i64 s.placed.stamp, .int .i64 s.placed.kind, .string s.placed.item, .int .i64 s.placed.qty, .int .i64 s.placed.level, .int .i64 s.placed.undos]
def cL.val (s : cL) : Value := .agg s.cells
theorem kO {w : World} {b : Nat} {cs : Array Value} {T : TypeId} (h : w.heap[b]? = some (.cells cs T (0, 0))) : w.frozen? ⟨b, 0, none⟩ = false ∧ w.frozen? ⟨b, 1, none⟩ = false ∧ w.frozen? ⟨b, 2, none⟩ = false ∧ w.frozen? ⟨b, 3, none⟩ = false ∧ w.frozen? ⟨b, 4, none⟩ = false ∧ w.frozen? ⟨b, 5, none⟩ = false ∧ w.frozen? ⟨b, 6, none⟩ = false ∧ w.frozen? ⟨b, 7, none⟩ = false ∧ w.frozen? ⟨b, 8, none⟩ = false ∧ w.frozen? ⟨b, 9, none⟩ = false ∧ w.frozen? ⟨b, 10, none⟩ = false ∧ w.frozen? ⟨b, 11, none⟩ = false ∧ w.frozen? ⟨b, 12, none⟩ = false ∧ w.frozen? ⟨b, 13, none⟩ = false ∧ w.frozen? ⟨b, 14, none⟩ = false ∧ w.frozen? ⟨b, 15, none⟩ = false ∧ w.frozen? ⟨b, 16, none⟩ = false :=
 ⟨aPs h, aPs h, aPs h, aPs h, aPs h, aPs h, aPs h, aPs h, aPs h, aPs h, aPs h, aPs h, aPs h, aPs h, aPs h, aPs h, aPs h⟩
structure kH (w w1 : World) (x y z : Array Value) (S T U : TypeId) : Prop where
 fst : w1.heap[w.heap.size]? = some (.cells x S (0, 0))
 snd : w1.heap[w.heap.size + 1]? = some (.cells y T (0, 0))
 res : w1.heap[w.heap.size + 1 + 1]? = some (.cells z U (0, 0))
 bel : Below w.heap.size w w1
theorem kH.mk0 (w : World) (x y z : Array Value) (S T U : TypeId) : kH w (((w.alloc (.cells x S)).alloc (.cells y T)).alloc (.cells z U)) x y z S T U := by
 have e1 : (w.alloc (.cells x S)).heap.size = w.heap.size + 1 := by simp
 have e2 : ((w.alloc (.cells x S)).alloc (.cells y T)).heap.size = w.heap.size + 1 + 1 := by simp
 refine ⟨?_, ?_, ?_, (((Below.refl _ w).alloc aPq _).alloc (by simp) _).alloc (by simp; omega) _⟩
 ·rw [Below.heap_alloc _ _ _ (by omega), Below.heap_alloc _ _ _ (by omega)]
  exact World.alloc_heap_new w _
 ·rw [Below.heap_alloc _ _ _ (by omega), ← e1]
  exact World.alloc_heap_new _ _
 ·rw [← e2]
  exact World.alloc_heap_new _ _
theorem kH.next {w w1 w2 : World} {x y z : Array Value} {S T U : TypeId} (h : kH w w1 x y z S T U) (hb : Below w1.heap.size w1 w2) : kH w w2 x y z S T U :=
 ⟨(hb.block _ (aPp h.fst).1).trans h.fst, (hb.block _ (aPp h.snd).1).trans h.snd, (hb.block _ (aPp h.res).1).trans h.res, h.bel.trans (hb.mono h.bel.size)⟩
set_option maxHeartbeats 10000000 in
theorem R2 (a b : aA) (w : World) : Calls Tryz.prog 123 #[a.val, b.val] w fun e w' => e = .returned (iM a b).val ∧ Below w.heap.size w w' := by
 have H := aPo (kH.mk0 w #[.int .i64 a.dev, .int .i64 a.seq, .int .i64 a.stamp, .int .i64 a.kind, .string a.item, .int .i64 a.qty, .int .i64 a.level, .int .i64 a.undos] #[.int .i64 b.dev, .int .i64 b.seq, .int .i64 b.stamp, .int .i64 b.kind, .string b.item, .int .i64 b.qty, .int .i64 b.level, .int .i64 b.undos] #[.int .i64 0, .int .i64 0, .int .i64 0, .int .i64 0, .string ⟨#[]⟩, .int .i64 0, .int .i64 0, .int .i64 0] 50 50 50)
 show Calls Tryz.prog 123 #[.agg #[.int .i64 a.dev, .int .i64 a.seq, .int .i64 a.stamp, .int .i64 a.kind, .string a.item, .int .i64 a.qty, .int .i64 a.level, .int .i64 a.undos], .agg #[.int .i64 b.dev, .int .i64 b.seq, .int .i64 b.stamp, .int .i64 b.kind, .string b.item, .int .i64 b.qty, .int .i64 b.level, .int .i64 b.undos]] w _
 rcases hbf : r8 b a with _ | _
 ·have HE : Hid (iM a b = b) := by show _ = _; unfold iM; rw [hbf]; rfl
  have HQ := aPo hbf; clear hbf
  go_enter Tryz.func123, Tryz.ntmps123
  go_wp2_with fail
  generalize ((w.alloc (.cells #[.int .i64 a.dev, .int .i64 a.seq, .int .i64 a.stamp, .int .i64 a.kind, .string a.item, .int .i64 a.qty, .int .i64 a.level, .int .i64 a.undos] 50)).alloc (.cells #[.int .i64 b.dev, .int .i64 b.seq, .int .i64 b.stamp, .int .i64 b.kind, .string b.item, .int .i64 b.qty, .int .i64 b.level, .int .i64 b.undos] 50)).alloc (.cells #[.int .i64 0, .int .i64 0, .int .i64 0, .int .i64 0, .string ⟨#[]⟩, .int .i64 0, .int .i64 0, .int .i64 0] 50) = w0 at H ⊢; refine (aAs b.dev b.seq b.stamp b.kind b.item b.qty b.level b.undos a.dev a.seq a.stamp a.kind a.item a.qty a.level a.undos w0).mono ?_
  rintro e w1 ⟨rfl, hb⟩; have H1 := aPo (H.out.next hb); clear hb H; have HQ2 : Hid (K6 b.dev b.seq b.stamp b.kind b.item b.qty b.level b.undos a.dev a.seq a.stamp a.kind a.item a.qty a.level a.undos = false) := HQ.out; rw [HQ2.out]; obtain ⟨c0, c1, c2, c3, c4, c5, c6, c7⟩ := aN H1.out.snd; obtain ⟨e0, e1, e2, e3, e4, e5, e6, e7⟩ := aN H1.out.res; obtain ⟨f0, f1, f2, f3, f4, f5, f6, f7⟩ := cP H1.out.res; go_wp2
  have HX := aPo (iX (.int .i64 b.dev) (.int .i64 b.seq) (.int .i64 b.stamp) (.int .i64 b.kind) (.string b.item) (.int .i64 b.qty) (.int .i64 b.level) (.int .i64 b.undos) H1.out.res); have HB := aPo (hU (.int .i64 b.dev) (.int .i64 b.seq) (.int .i64 b.stamp) (.int .i64 b.kind) (.string b.item) (.int .i64 b.qty) (.int .i64 b.level) (.int .i64 b.undos) H1.out.bel (by show _ ≤ w.heap.size + 1 + 1; omega))
  clear c0 c1 c2 c3 c4 c5 c6 c7 e0 e1 e2 e3 e4 e5 e6 e7 f0 f1 f2 f3 f4 f5 f6 f7
  change bodyPost _ _ _ _ _ (bK w1 (w.heap.size + 1 + 1) (.int .i64 b.dev) (.int .i64 b.seq) (.int .i64 b.stamp) (.int .i64 b.kind) (.string b.item) (.int .i64 b.qty) (.int .i64 b.level) (.int .i64 b.undos))
  generalize bK w1 (w.heap.size + 1 + 1) (.int .i64 b.dev) (.int .i64 b.seq) (.int .i64 b.stamp) (.int .i64 b.kind) (.string b.item) (.int .i64 b.qty) (.int .i64 b.level) (.int .i64 b.undos) = wf at HX HB ⊢; obtain ⟨d0, d1, d2, d3, d4, d5, d6, d7⟩ := aN HX.out; exact bodyPost_ret (v := .agg #[.int .i64 b.dev, .int .i64 b.seq, .int .i64 b.stamp, .int .i64 b.kind, .string b.item, .int .i64 b.qty, .int .i64 b.level, .int .i64 b.undos]) (by simp [results, Tryz.results123, go_sem, d0, d1, d2, d3, d4, d5, d6, d7]) rfl ⟨by rw [HE.out]; rfl, HB.out⟩
 ·have HE : Hid (iM a b = a) := by show _ = _; unfold iM; rw [hbf]; rfl
  have HQ := aPo hbf; clear hbf
  go_enter Tryz.func123, Tryz.ntmps123
  go_wp2_with fail
  generalize ((w.alloc (.cells #[.int .i64 a.dev, .int .i64 a.seq, .int .i64 a.stamp, .int .i64 a.kind, .string a.item, .int .i64 a.qty, .int .i64 a.level, .int .i64 a.undos] 50)).alloc (.cells #[.int .i64 b.dev, .int .i64 b.seq, .int .i64 b.stamp, .int .i64 b.kind, .string b.item, .int .i64 b.qty, .int .i64 b.level, .int .i64 b.undos] 50)).alloc (.cells #[.int .i64 0, .int .i64 0, .int .i64 0, .int .i64 0, .string ⟨#[]⟩, .int .i64 0, .int .i64 0, .int .i64 0] 50) = w0 at H ⊢; refine (aAs b.dev b.seq b.stamp b.kind b.item b.qty b.level b.undos a.dev a.seq a.stamp a.kind a.item a.qty a.level a.undos w0).mono ?_
  rintro e w1 ⟨rfl, hb⟩; have H1 := aPo (H.out.next hb); clear hb H; have HQ2 : Hid (K6 b.dev b.seq b.stamp b.kind b.item b.qty b.level b.undos a.dev a.seq a.stamp a.kind a.item a.qty a.level a.undos = true) := HQ.out; rw [HQ2.out]; obtain ⟨c0, c1, c2, c3, c4, c5, c6, c7⟩ := aN H1.out.fst; obtain ⟨e0, e1, e2, e3, e4, e5, e6, e7⟩ := aN H1.out.res; obtain ⟨f0, f1, f2, f3, f4, f5, f6, f7⟩ := cP H1.out.res; go_wp2
  have HX := aPo (iX (.int .i64 a.dev) (.int .i64 a.seq) (.int .i64 a.stamp) (.int .i64 a.kind) (.string a.item) (.int .i64 a.qty) (.int .i64 a.level) (.int .i64 a.undos) H1.out.res); have HB := aPo (hU (.int .i64 a.dev) (.int .i64 a.seq) (.int .i64 a.stamp) (.int .i64 a.kind) (.string a.item) (.int .i64 a.qty) (.int .i64 a.level) (.int .i64 a.undos) H1.out.bel (by show _ ≤ w.heap.size + 1 + 1; omega))
  clear c0 c1 c2 c3 c4 c5 c6 c7 e0 e1 e2 e3 e4 e5 e6 e7 f0 f1 f2 f3 f4 f5 f6 f7
  change bodyPost _ _ _ _ _ (bK w1 (w.heap.size + 1 + 1) (.int .i64 a.dev) (.int .i64 a.seq) (.int .i64 a.stamp) (.int .i64 a.kind) (.string a.item) (.int .i64 a.qty) (.int .i64 a.level) (.int .i64 a.undos))
  generalize bK w1 (w.heap.size + 1 + 1) (.int .i64 a.dev) (.int .i64 a.seq) (.int .i64 a.stamp) (.int .i64 a.kind) (.string a.item) (.int .i64 a.qty) (.int .i64 a.level) (.int .i64 a.undos) = wf at HX HB ⊢; obtain ⟨d0, d1, d2, d3, d4, d5, d6, d7⟩ := aN HX.out; exact bodyPost_ret (v := .agg #[.int .i64 a.dev, .int .i64 a.seq, .int .i64 a.stamp, .int .i64 a.kind, .string a.item, .int .i64 a.qty, .int .i64 a.level, .int .i64 a.undos]) (by simp [results, Tryz.results123, go_sem, d0, d1, d2, d3, d4, d5, d6, d7]) rfl ⟨by rw [HE.out]; rfl, HB.out⟩
def H8 (xs : List Int) (l : List aA) (dev : Int) : Int := if aE xs l = true ∧ cV dev 0 3 = true then dE dev l l.length else 0
def wX (xs : List Int) (l : List aA) (dev : Int) : Int := if aE xs l = true ∧ cV dev 0 3 = true then qM xs dev.toNat l else 0
theorem aBO (xs : List Int) (l : List aA) (dev : Int) : lastOf dev (counted xs l) = H8 xs l dev := by
 unfold counted H8
 by_cases hc : aE xs l = true
 ·rw [if_pos hc, aBB hc dev _ aPq]
  by_cases hd : cV dev 0 3 = true
  ·rw [if_pos ⟨hc, hd⟩]
  ·rw [if_neg (fun h => hd h.2), Y6 hc (fun h => hd (gJ.2 h)) _ aPq]
 ·rw [if_neg hc, if_neg (fun h => hc h.1)]
  rfl
theorem aCt {xs : List Int} {l : List aA} {dev : Int} (h : aE xs l = false ∨ cV dev 0 3 = false) : wX xs l dev = 0 := by
 unfold wX
 rw [if_neg (fun k => by rcases h with h | h <;> simp [h] at k)]
def Y3 (n : Int) (w : World) (e : Ending) (w' : World) : Prop := e = .returned (.tuple #[.int .i64 n, .bool (decide (0 < n))]) ∧ Below w.heap.size w w'
theorem aCm {n : Int} {w w' : World} (h : n = 0) (hb : Below w.heap.size w w') : Y3 n w (.returned (.tuple #[.int .i64 0, .bool false])) w' := ⟨by rw [h]; rfl, hb⟩
theorem aJP {n m : Int} {w w' : World} (h : n = m) (h0 : 0 < m) (hb : Below w.heap.size w w') : Y3 n w (.returned (.tuple #[.int .i64 m, .bool true])) w' := ⟨by rw [h, decide_eq_true h0], hb⟩
theorem vT (dev : Int) (w : World) : Calls Tryz.prog 53 #[.int .i64 dev] w fun e w' => e = .returned (.bool (cV dev 0 3)) ∧ w = w' := by
 go_enter Tryz.func53, Tryz.ntmps53
 go_wp2_with fail
 refine (cH _ _ _ _).mono ?_
 rintro e w' ⟨rfl, rfl⟩
 go_wp2
 go_ret
 exact ⟨rfl, rfl⟩
set_option maxHeartbeats 10000000 in
theorem aIg (w : World) (B : Nat) (av ao : Option Addr) (nv cv no co : Nat) (xs : List Int) (l : List aA) (dev : Int) (hx : Ints w B av nv xs) (h : bP w B ao no l) (hB : B ≤ w.heap.size) (hv : nv ≤ 1048576) (hc : no ≤ co) (dP : Fits no co) : Calls Tryz.prog 34 #[.agg #[.slice av nv cv, .slice ao no co], .int .i64 dev] w (Y3 (H8 xs l dev) w) := by
 have yO : no ≤ 1048576 := dP.1
 have bD : Below w.heap.size w (w.alloc (.cells #[.slice av nv cv, .slice ao no co] 27)) := (Below.refl _ w).alloc aPq _
 have HV := aPo (hx.below bD hB)
 have HO := aPo (h.below bD hB)
 have HB := aPo bD
 have HX := aPo (bX (Below.refl _ (w.alloc (.cells #[.slice av nv cv, .slice ao no co] 27))))
 have dC : w.heap.size < (w.alloc (.cells #[.slice av nv cv, .slice ao no co] 27)).heap.size := by show _ < (w.heap.push _).size; simp
 clear hx h bD
 obtain ⟨c0, c1⟩ := pair_cells HX.out
 go_enter Tryz.func34, Tryz.ntmps34
 go_wp2_with fail
 generalize w.alloc (.cells #[.slice av nv cv, .slice ao no co] 27) = w0 at HV HO HB HX dC c0 c1 ⊢
 refine (aCM w0 B av ao nv cv no co xs l dev HV.out HO.out (by omega) hv hc dP).mono ?_
 rintro e w1 ⟨rfl, hb⟩
 rw [aBO]
 have vU := aPo ((hb.block _ (aPp HX.out).1).trans HX.out)
 have jR := aPo (HV.out.below hb (by omega))
 have dD := aPo (HO.out.below hb (by omega))
 have cU := aPo (HB.out.trans (hb.mono HB.out.size))
 have eZ := hb.size
 clear hb c0 c1 HX HV HO HB
 obtain ⟨c0, c1⟩ := pair_cells vU.out
 go_wp2
 go_ret2
 exact ⟨rfl, cU.out⟩
set_option maxHeartbeats 10000000 in
theorem aIh (w : World) (B : Nat) (av ao : Option Addr) (nv cv no co : Nat) (xs : List Int) (l : List aA) (dev : Int) (hx : Ints w B av nv xs) (h : bP w B ao no l) (hB : B ≤ w.heap.size) (hv : nv ≤ 1048576) (hc : no ≤ co) (dP : Fits no co) : Calls Tryz.prog 28 #[.agg #[.slice av nv cv, .slice ao no co], .int .i64 dev] w (Y3 (wX xs l dev) w) := by
 have yO : no ≤ 1048576 := dP.1
 have bD : Below w.heap.size w (w.alloc (.cells #[.slice av nv cv, .slice ao no co] 27)) := (Below.refl _ w).alloc aPq _
 have HV := aPo (hx.below bD hB)
 have HO := aPo (h.below bD hB)
 have HB := aPo bD
 have HX := aPo (bX (Below.refl _ (w.alloc (.cells #[.slice av nv cv, .slice ao no co] 27))))
 have dC : w.heap.size < (w.alloc (.cells #[.slice av nv cv, .slice ao no co] 27)).heap.size := by show _ < (w.heap.push _).size; simp
 clear hx h bD
 obtain ⟨c0, c1⟩ := pair_cells HX.out
 rcases hcb : aE xs l with _ | _
 ·have HN := aPo (aCt (dev := dev) (.inl hcb))
  have HC := aPo hcb; clear hcb
  go_enter Tryz.func28, Tryz.ntmps28
  go_wp2_with fail
  generalize w.alloc (.cells #[.slice av nv cv, .slice ao no co] 27) = w0 at HV HO HB HX dC c0 c1 ⊢; refine (iZ w0 B av ao nv cv no co xs l HV.out HO.out (by omega) hv hc dP).mono ?_
  rintro e w1 ⟨rfl, hb⟩; rw [HC.out]; have vU := aPo ((hb.block _ (aPp HX.out).1).trans HX.out); have jR := aPo (HV.out.below hb (by omega))
  have dD := aPo (HO.out.below hb (by omega))
  have cU := aPo (HB.out.trans (hb.mono HB.out.size)); have eZ := hb.size; clear hb c0 c1 HX HV HO HB; obtain ⟨c0, c1⟩ := pair_cells vU.out; go_wp2
  go_ret2
  exact aCm HN.out cU.out
 have HC := aPo hcb
 rcases hd : cV dev 0 3 with _ | _
 ·have HN := aPo (aCt (xs := xs) (l := l) (.inr hd))
  have HD := aPo hd; clear hcb hd
  go_enter Tryz.func28, Tryz.ntmps28
  go_wp2_with fail
  generalize w.alloc (.cells #[.slice av nv cv, .slice ao no co] 27) = w0 at HV HO HB HX dC c0 c1 ⊢; refine (iZ w0 B av ao nv cv no co xs l HV.out HO.out (by omega) hv hc dP).mono ?_
  rintro e w1 ⟨rfl, hb⟩; rw [HC.out]; have vU := aPo ((hb.block _ (aPp HX.out).1).trans HX.out); have jR := aPo (HV.out.below hb (by omega))
  have dD := aPo (HO.out.below hb (by omega))
  have cU := aPo (HB.out.trans (hb.mono HB.out.size)); have eZ := hb.size; clear hb c0 c1 HX HV HO HB; obtain ⟨c0, c1⟩ := pair_cells vU.out
  go_wp2_with fail
  refine (vT _ _).mono ?_
  rintro e w' ⟨rfl, rfl⟩; rw [HD.out]; go_wp2
  go_ret2
  exact aCm HN.out cU.out
 have HD := aPo hd
 obtain ⟨g1, g2⟩ := gJ.1 hd
 obtain ⟨d, rfl⟩ := Int.eq_ofNat_of_zero_le g1
 have N4 : d < 4 := by omega
 have HU : Hid (H8 xs l (d : Int) = dE (d : Int) l l.length) := by show _ = _; unfold H8; rw [if_pos ⟨hcb, hd⟩]
 have HR : Hid (wX xs l (d : Int) = if dE (d : Int) l l.length + 1 ≤ xs.getD d 0 then dE (d : Int) l l.length + 1 else 0) := by show _ = _; unfold wX; rw [if_pos ⟨hcb, hd⟩, Int.toNat_natCast]; rfl
 have G8 := aPo (aEp hcb d l.length aPq)
 have hu1 := G8.out.1
 have hu2 := G8.out.2
 have HVe := aPo (fU (pY hcb).1 N4)
 have hnv : nv = 4 := HV.out.1.symm.trans HVe.out.2.2
 subst hnv
 clear hcb hd g1 g2
 go_enter Tryz.func28, Tryz.ntmps28
 go_wp2_with fail
 generalize w.alloc (.cells #[.slice av 4 cv, .slice ao no co] 27) = w0 at HV HO HB HX dC c0 c1 ⊢
 refine (iZ w0 B av ao 4 cv no co xs l HV.out HO.out (by omega) hv hc dP).mono ?_
 rintro e w1 ⟨rfl, hb⟩
 rw [HC.out]
 have vU := aPo ((hb.block _ (aPp HX.out).1).trans HX.out)
 have jR := aPo (HV.out.below hb (by omega))
 have dD := aPo (HO.out.below hb (by omega))
 have cU := aPo (HB.out.trans (hb.mono HB.out.size))
 have eZ := hb.size
 clear hb c0 c1 HX HV HO HB
 obtain ⟨c0, c1⟩ := pair_cells vU.out
 go_wp2_with fail
 refine (vT _ _).mono ?_
 rintro e w' ⟨rfl, rfl⟩
 rw [HD.out]
 go_wp2_with fail
 refine (aCM w1 B av ao 4 cv no co xs l (d : Int) jR.out dD.out (by omega) hv hc dP).mono ?_
 rintro e w2 ⟨rfl, hb⟩
 rw [aBO, HU.out]
 have pU := aPo ((hb.block _ (aPp vU.out).1).trans vU.out)
 have kQ := aPo (jR.out.below hb (by omega))
 have gR := aPo (dD.out.below hb (by omega))
 have bT := aPo (cU.out.trans (hb.mono cU.out.size))
 have eC := hb.size
 clear hb c0 c1 vU jR dD cU
 obtain ⟨c0, c1⟩ := pair_cells pU.out
 generalize dE (d : Int) l l.length = u at HR hu1 hu2 ⊢
 obtain ⟨bv, ov, rfl, hbv, cv'⟩ := kQ.out.2 d N4
 have N3 := HVe.out.2.1
 generalize xs.getD d 0 = y at HR cv' N3
 by_cases hy : u + 1 ≤ y
 ·have HE : Hid (wX xs l (d : Int) = u + 1) := by show _ = _; rw [HR.out, if_pos hy]
  have aJ : ¬ y < u + 1 := by omega
  clear HR; go_wp2
  go_ret2
  exact aJP HE.out (by omega) bT.out
 ·have HE : Hid (wX xs l (d : Int) = 0) := by show _ = _; rw [HR.out, if_neg hy]
  have aJ : y < u + 1 := by omega
  clear HR hy; go_wp2
  go_ret2
  exact aCm HE.out bT.out
end Go.Proofs.YthkagbnpcjidfaaGreatDoor
