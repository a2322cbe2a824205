/- Walks and mathematics that several claims share, part 11. -/
import Derived.Test.YthkagbnpcjidfaaGreatDoorGp10
import Derived.RangeFuncNested
import Derived.RangeFuncBound
import Derived.RangeFuncCalls
import Derived.RangeFuncLeaves
import Derived.Shelf.Abstract
import Derived.Shelf.RegionOpen
import Derived.OwnWalkIn
import Derived.TacticsInMore
import Derived.LoopNIn
import Derived.LoopIn
import Derived.Lib.MinMax
import Derived.Deep.Cut
namespace Go.Proofs.YthkagbnpcjidfaaGreatDoor
set_option maxRecDepth 100000
open Go.RowKit Go.Shelf
attribute [local go_sem] Oper.semAt_some
theorem aAV (cs : Array Value) (w : World) (n : Nat) :
  CallsIn Fence.wide n Tryz.prog 92 #[.agg cs] w fun e w' => e = .returned (.func (.func 122) #[] #[.pointer (some ⟨w.heap.size, 0, none⟩)]) ∧ w' = w.alloc (.cells cs 27) := by
 refine callsIn_of_wp Tryz.func92 rfl trivial ?_ rfl
 simp only [Tryz.ntmps92, List.size_toArray, List.length_cons, List.length_nil, Nat.reduceAdd, Nat.reduceSub, Array.replicate_succ, Array.replicate_zero, List.push_toArray, List.append_toArray, List.nil_append, List.cons_append]
 gi_wp2
 go_ret
 exact ⟨rfl, rfl⟩
def K7 (xs : List Int) (l : List aA) (J Jx : List aA → World → Prop) (e : Ending) (W' : World) : Prop :=
 (∃ v, e = .returned v) ∧ ((∃ ys, ys = (if aD xs l = true then hM l l.length else []) ∧ J ys W') ∨ (∃ bI : List aA, True ∧ Jx bI W'))
theorem aCC {xs : List Int} {l : List aA} {J Jx : List aA → World → Prop} {v : Value} {W' : World} (h : aD xs l = false) (hJ : J [] W') : K7 xs l J Jx (.returned v) W' :=
 ⟨⟨_, rfl⟩, .inl ⟨[], by rw [h]; rfl, hJ⟩⟩
theorem aB6 {xs : List Int} {l : List aA} {J Jx : List aA → World → Prop} {v : Value} {W' : World} (h : aD xs l = true) (hJ : J (hM l l.length) W') : K7 xs l J Jx (.returned v) W' :=
 ⟨⟨_, rfl⟩, .inl ⟨_, by rw [if_pos h], hJ⟩⟩
theorem aAU {xs : List Int} {l : List aA} {J Jx : List aA → World → Prop} {v : Value} {W' : World} (bI : List aA) (hJ : Jx bI W') : K7 xs l J Jx (.returned v) W' :=
 ⟨⟨_, rfl⟩, .inr ⟨bI, trivial, hJ⟩⟩
theorem aGR {l : List aA} {k : Nat} (h : k < l.length) : l.getD k aA.zero ∈ l := by
 rw [List.getD_eq_getElem?_getD, List.getElem?_eq_getElem h]
 exact List.getElem_mem h
theorem below_grown {w w' : World} (h : Below w.heap.size w w') : w.grownBy w' none := ⟨h.os, h.tape, h.output, h.size, fun k hk _ => h.block k hk⟩
set_option maxHeartbeats 10000000 in
theorem aCD (n : Nat) (hn : 1 ≤ n) (lp Bc n₀ : Nat) (av ao : Option Addr) (nv cv no co : Nat) (xs : List Int) (l : List aA) (hv : nv ≤ 1048576) (hc : no ≤ co) (cM : Fits no co)
  (J Jx : List aA → World → Prop) (hJ : ∀ s W W', J s W → W.grownBy W' none → J s W')
  (hY : ∀ bI x W, J bI W → bI.length < l.length → x ∈ l → YieldAt Fence.wide (n - 1) Tryz.prog lp #[aA.val x] W fun e W' => (e = .returned (.bool true) ∧ J (bI ++ [x]) W' ∧ Below n₀ W W') ∨ (e = .returned (.bool false) ∧ Jx (bI ++ [x]) W'))
  (W : World) (hBc : W.heap[Bc]? = some (.cells #[.slice av nv cv, .slice ao no co] 27 (0, 0))) (hx : Ints W n₀ av nv xs) (h : bK W n₀ ao no l) (Z8 : n₀ ≤ W.heap.size) (h0 : J [] W) :
  CallsIn Fence.wide n Tryz.prog 122 #[.func (.yield lp) #[] #[], .pointer (some ⟨Bc, 0, none⟩)] W (K7 xs l J Jx) := by
 have tF : no ≤ 1048576 := cM.1
 have HX := aPu hx
 have HO := aPu h
 have HC := aPu hBc
 have HL := aPu h.1
 have HJ := aPu hJ
 have HY := aPu hY
 have H0 := aPu h0
 obtain ⟨c0, c1⟩ := pair_cells hBc
 clear hx h hBc hJ hY h0
 refine callsIn_of_wp Tryz.func122 rfl trivial ?_ rfl
 simp only [Tryz.ntmps122, List.size_toArray, List.length_cons, List.length_nil, Nat.reduceAdd, Nat.reduceSub, Array.replicate_succ, Array.replicate_zero, List.push_toArray, List.append_toArray, List.nil_append, List.cons_append]
 gi_wp2_with fail
 refine ⟨trivial, (callsIn_wide.2 (iM W n₀ av ao nv cv no co xs l HX.out HO.out Z8 hv hc cM)).mono ?_⟩
 rintro e w1 ⟨rfl, hb⟩
 have HJ1 := aPu (HJ.out _ _ _ H0.out (below_grown hb))
 have cI := aPu (HO.out.below hb Z8)
 have C2 := aPu ((hb.block _ (aPv HC.out).1).trans HC.out)
 have dZ := hb.size
 clear hb c0 c1 H0 HX HO HC
 obtain ⟨c0, c1⟩ := pair_cells C2.out
 rcases hcb : aD xs l with _ | _
 ·have tW := aPu hcb
  clear hcb
  gi_wp2
  refine bodyPost_ret (results_none rfl _ _ _) rfl ?_
  exact aCC tW.out HJ1.out
 have vY := aPu hcb
 clear hcb
 gi_wp2
 gi_loopw [11] (fun i wr => ∃ k : Nat, k ≤ no ∧ i = .int .i64 k ∧ Hid (J (hM l k) wr) ∧ Hid (bK wr n₀ ao no l) ∧ Hid (n₀ ≤ wr.heap.size)) (fun i _ => no - (intOf i).toNat)
 case atStart => exact ⟨0, Nat.zero_le _, rfl, HJ1, cI, by show n₀ ≤ _; omega⟩
 case round =>
  obtain ⟨k, hk, rfl, HJs, HOs, HNs⟩ := hrel; clear HJ1 cI C2 c0 c1
  by_cases aK : k < no
  rotate_left
  ·obtain rfl : k = no := by omega
   gi_wp2
   go_end0
   exact aB6 vY.out (by rw [HL.out]; exact HJs.out)
  obtain ⟨b, off, rfl, hb, ho⟩ := HOs.out.2 k aK; obtain ⟨c0, c1, c2, c3, c4, c5, c6, c7⟩ := ho; have K8 := aPu (@I1 l k (by rw [HL.out]; exact aK))
  have sJ := aPu (@Q7 l k (by rw [HL.out]; exact aK))
  have HMm := aPu (aGR (l := l) (k := k) (by rw [HL.out]; exact aK))
  generalize l.getD k aA.zero = x at K8 sJ HMm c0 c1 c2 c3 c4 c5 c6 c7
  gi_wp2_with fail
  have HX := aPu (bE (Below.refl _ (wr.alloc (.cells #[.int .i64 x.dev, .int .i64 x.seq, .int .i64 x.stamp, .int .i64 x.kind, .string x.item, .int .i64 x.qty, .int .i64 x.level, .int .i64 x.undos] 50)))); have bC : Below wr.heap.size wr (wr.alloc (.cells #[.int .i64 x.dev, .int .i64 x.seq, .int .i64 x.stamp, .int .i64 x.kind, .string x.item, .int .i64 x.qty, .int .i64 x.level, .int .i64 x.undos] 50)) := bl; generalize wr.alloc (.cells #[.int .i64 x.dev, .int .i64 x.seq, .int .i64 x.stamp, .int .i64 x.kind, .string x.item, .int .i64 x.qty, .int .i64 x.level, .int .i64 x.undos] 50) = w2 at HX bC ⊢; refine ⟨trivial, (callsIn_wide.2 (yK x.dev x.seq x.stamp x.kind x.item x.qty x.level x.undos w2)).mono ?_⟩
  rintro e w3 ⟨rfl, aR⟩; have lU := aPu ((aR.block _ (aPv HX.out).1).trans HX.out); have aE : Below wr.heap.size wr w3 := bC.trans (aR.mono bC.size); have HJ3 := aPu (HJ.out _ _ _ HJs.out (below_grown aE)); have pS := aPu (HOs.out.below aE HNs.out); have nX : Hid (n₀ ≤ w3.heap.size) := Nat.le_trans HNs.out aE.size; clear bC aE aR HX HJs HOs HNs c0 c1 c2 c3 c4 c5 c6 c7; have ⟨d0, d1, d2, d3, d4, d5, d6, d7⟩ : nI w3 wr.heap.size 0 x := ⟨aPx lU.out, aPx lU.out, aPx lU.out, aPx lU.out, aPx lU.out, aPx lU.out, aPx lU.out, aPx lU.out⟩; simp only [Nat.zero_add] at d0 d1 d2 d3 d4 d5 d6 d7
  have HLv : Hid (x.live = rH x.dev x.seq x.stamp x.kind x.item x.qty x.level x.undos) := rfl; rcases hlv : rH x.dev x.seq x.stamp x.kind x.item x.qty x.level x.undos with _ | _
  ·have HE := aPu (sJ.out (HLv.out.trans hlv))
   clear hlv
   gi_wp2
   refine ⟨fun _ h => (by cases h), ?_⟩
   gi_wp2
   go_roundw
   case rel => exact ⟨k + 1, by omega, by go_num, by rw [HE.out]; exact HJ3, pS, nX⟩
   case measure => simp [intOf]; omega
  ·have HE := aPu (K8.out (HLv.out.trans hlv))
   clear hlv; have O1 := aPu (aAp l k); obtain ⟨fn, tmps, assign, body, hy, hR⟩ := HY.out _ x w3 HJ3.out (by have := O1.out; rw [HL.out]; omega) HMm.out
   unfold aA.val at hy; have HR := aPu hR; clear hR
   gi_wp2
   refine HR.out.mono ?_
   rintro e w4 (⟨rfl, hJ4, hk4⟩ | ⟨rfl, aLJ⟩)
   ·have HJ4 := aPu hJ4
    have nV := aPu (pS.out.below hk4 aPw); have vW : Hid (n₀ ≤ w4.heap.size) := Nat.le_trans nX.out hk4.size; clear hJ4 hk4
    gi_wp2
    go_roundw
    case rel => exact ⟨k + 1, by omega, by go_num, by rw [HE.out]; exact HJ4, nV, vW⟩
    case measure => simp [intOf]; omega
   ·have HJx := aPu aLJ
    clear aLJ
    gi_wp2
    refine bodyPost_ret (results_none rfl _ _ _) rfl ?_
    exact aAU _ HJx.out
end Go.Proofs.YthkagbnpcjidfaaGreatDoor
namespace Go.Proofs.YthkagbnpcjidfaaGreatDoor
set_option maxRecDepth 100000
open Go.RowKit Go.Shelf
attribute [local go_sem] Oper.semAt_some
def counted (xs : List Int) (l : List aA) : List aA := if aD xs l = true then hM l l.length else []
theorem sF {β : Type} (B : Nat) (t : TypeId) (f : β → Array Value) : Own (fun s W => W.heap[B]? = some (.cells (f s) t (0, 0))) := fun s X Y row hs hg jL =>
 (hg.block B (aPv hs).1 (fun e' => by obtain ⟨o, ho, hc⟩ := jL B e'.symm; rw [hs] at ho; cases ho; cases hc)).trans hs
theorem aAo (n : Nat) (hn : 1 ≤ n) (Bc n₀ : Nat) (av ao : Option Addr) (nv cv no co : Nat) (xs : List Int) (l : List aA) (hv : nv ≤ 1048576) (hc : no ≤ co) (cM : Fits no co)
  (w : World) (hBc : w.heap[Bc]? = some (.cells #[.slice av nv cv, .slice ao no co] 27 (0, 0))) (hx : Ints w n₀ av nv xs) (h : bK w n₀ ao no l) (Z8 : n₀ ≤ w.heap.size) :
  SeqStopsK Fence.wide n Tryz.prog 122 #[.pointer (some ⟨Bc, 0, none⟩)] (fun x : aA => #[aA.val x]) (Below n₀) (fun ys => ys = counted xs l) (fun _ => True) l.length w := fun lp J Jx W hW hJ _ hY h0 =>
 aCD n hn lp Bc n₀ av ao nv cv no co xs l hv hc cM J Jx (fun s A B hs hg => hJ s A B none hs hg (fun r e => by cases e)) (fun bI x W hj hl _ => hY bI x W hj hl) W ((hW.block _ (aPv hBc).1).trans hBc) (hx.below hW Z8) (h.below hW Z8) (Nat.le_trans Z8 hW.size) h0
set_option maxHeartbeats 10000000 in
theorem aCJ (w : World) (B : Nat) (av ao : Option Addr) (nv cv no co : Nat) (xs : List Int) (l : List aA) (dev : Int) (hx : Ints w B av nv xs) (h : bK w B ao no l) (hB : B ≤ w.heap.size) (hv : nv ≤ 1048576) (hc : no ≤ co) (cM : Fits no co) :
  Calls Tryz.prog 66 #[.agg #[.slice av nv cv, .slice ao no co], .int .i64 dev] w fun e w' => e = .returned (.int .i64 (lastOf dev (counted xs l))) ∧ Below w.heap.size w w' := by
 have tF : no ≤ 1048576 := cM.1
 have HX := aPu (hx.more hB)
 have HO := aPu (h.more hB)
 clear hx h hB
 refine (callsIn_wide (n := 8)).1 ?_
 refine callsIn_of_wp_marks Tryz.func66 rfl trivial ?_ rfl
 simp only [Tryz.ntmps66, List.size_toArray, List.length_cons, List.length_nil, Nat.reduceAdd, Nat.reduceSub, Array.replicate_succ, Array.replicate_zero, List.push_toArray, List.append_toArray, List.nil_append, List.cons_append]
 gi_wp2_with fail
 refine ⟨trivial, (aAV _ _ _).mono ?_⟩
 rintro e w' ⟨rfl, rfl⟩
 have aE := ((Boxed.new (w.alloc (.cells #[.slice av nv cv, .slice ao no co] 27)) 2 (.int .i64 dev)).alloc (.cells #[.int .i64 0] 2)).alloc (.cells #[.slice av nv cv, .slice ao no co] 27)
 have aG := (Boxed.new ((w.alloc (.cells #[.slice av nv cv, .slice ao no co] 27)).alloc (.cells #[.int .i64 dev] 2)) 2 (.int .i64 0)).alloc (.cells #[.slice av nv cv, .slice ao no co] 27)
 have aR := bE (Below.refl _ ((((w.alloc (.cells #[.slice av nv cv, .slice ao no co] 27)).alloc (.cells #[.int .i64 dev] 2)).alloc (.cells #[.int .i64 0] 2)).alloc (.cells #[.slice av nv cv, .slice ao no co] 27)))
 have A9 : Below w.heap.size w ((((w.alloc (.cells #[.slice av nv cv, .slice ao no co] 27)).alloc (.cells #[.int .i64 dev] 2)).alloc (.cells #[.int .i64 0] 2)).alloc (.cells #[.slice av nv cv, .slice ao no co] 27)) := ((((Below.refl _ w).alloc aPw _).alloc (by simp) _).alloc (by simp; omega) _).alloc (by simp; omega) _
 have cP : ((((w.alloc (.cells #[.slice av nv cv, .slice ao no co] 27)).alloc (.cells #[.int .i64 dev] 2)).alloc (.cells #[.int .i64 0] 2)).alloc (.cells #[.slice av nv cv, .slice ao no co] 27)).heap.size = w.heap.size + 1 + 1 + 1 + 1 := by simp
 simp only [World.size_alloc] at aE aG aR
 gi_wp2
 generalize ((((w.alloc (.cells #[.slice av nv cv, .slice ao no co] 27)).alloc (.cells #[.int .i64 dev] 2)).alloc (.cells #[.int .i64 0] 2)).alloc (.cells #[.slice av nv cv, .slice ao no co] 27)) = W0 at aE aG aR A9 cP ⊢
 refine wpIn_rangeFunc_ownH rfl (by omega) (gf := 122) (lb := #[.pointer (some ⟨w.heap.size + 1 + 1 + 1, 0, none⟩)]) rfl trivial (enters_of Tryz.func122 (by kernel_rfl) rfl)
  (aAo _ (by omega) (w.heap.size + 1 + 1 + 1) w.heap.size av ao nv cv no co xs l hv hc cM W0 aR (HX.out.below A9 aPw) (HO.out.below A9 aPw) (by omega))
  belowK_t (belowK_b (by omega)) (Below.refl _ _) (fun _ => rfl)
  (fun bI W => (Boxed W (w.heap.size + 1) 2 (.int .i64 dev) ∧ Boxed W (w.heap.size + 1 + 1) 2 (.int .i64 (lastOf dev bI))) ∧ Below w.heap.size w W)
  (fun _ _ _ => False)
  (OwnFrom.and (OwnFrom.and (Own.from (boxed_own _ _ _) _) (Own.from (boxed_own _ _ (fun bI => .int .i64 (lastOf dev bI))) _)) (ownFrom_below aPw (by omega)))
  (fun _ _ _ _ _ hs _ _ => hs)
  ⟨⟨aE, aG⟩, A9⟩
  (fun x a' W => ∃ Bx, w.heap.size + 1 + 1 < Bx ∧ W.heap[Bx]? = some (.cells #[.int .i64 x.dev, .int .i64 x.seq, .int .i64 x.stamp, .int .i64 x.kind, .string x.item, .int .i64 x.qty, .int .i64 x.level, .int .i64 x.undos] 50 (0, 0)) ∧ a' = { tmps := #[.agg #[.slice av nv cv, .slice ao no co], .int .i64 dev, .pointer (some ⟨w.heap.size, 0, none⟩), .pointer (some ⟨w.heap.size + 1, 0, none⟩), .int .i64 0, .pointer (some ⟨w.heap.size + 1 + 1, 0, none⟩), .pointer (some ⟨Bx, 0, none⟩), .agg #[.slice av nv cv, .slice ao no co], .func (.func 122) #[] #[.pointer (some ⟨w.heap.size + 1 + 1 + 1, 0, none⟩)], aA.val x, undef, undef, undef, undef, undef, undef, undef, undef, undef], defers := [] })
  (fun x a' s A B row hs hg hr => by
   obtain ⟨Bx, h1, h2, h3⟩ := hs; exact ⟨Bx, h1, (sF (β := Unit) Bx _ (fun _ => _)).from _ () A B row h2 hg hr, h3⟩) ?assign ?body ?done ?stop
 case assign =>
  rintro lp bI x W K ⟨⟨h1, h2⟩, h3⟩ hK; unfold aA.val
  gi_wp2
  exact hK _ _ ((KeepsOthers.alloc _ _).from _) ((Below.refl _ W).alloc h3.size _) ⟨⟨h1.alloc _, h2.alloc _⟩, h3.alloc h3.size _⟩ ⟨W.heap.size, h2.lt, World.alloc_heap_new W _, rfl⟩
 case body =>
  rintro lp bI x a' W hl ⟨r, hr⟩ ⟨⟨h1, h2⟩, h3⟩ ⟨Bx, hBx, hX, rfl⟩ kU; have d0 := cell_of_row W Bx 0 _ _ _ hX; have d1 := cell_of_row W Bx 1 _ _ _ hX; simp only [List.getElem?_toArray, List.getElem?_cons_zero, List.getElem?_cons_succ] at d0 d1
  have g1 := h1.cell; have g2 := h2.cell; have g3 := h2.frozen; have H1 := aPu h1; have H2 := aPu h2; have H3 := aPu h3; have HS := aPu (Y8 dev bI x); clear h1 h2 h3 hX hr
  by_cases hd : x.dev = dev
  ·have hb : (x.dev == dev) = true := by rw [hd]; exact beq_self_eq_true _
   have HE : Hid (lastOf dev (bI ++ [x]) = max (lastOf dev bI) x.seq) := by show _ = _; rw [HS.out, if_pos hd]
   clear hd HS
   gi_wp2
   exact ⟨(KeepsOthers.setCell _ _ _).from _, (Below.refl _ W).setCell (p := ⟨w.heap.size + 1 + 1, 0, none⟩) (by show _ ≤ w.heap.size + 1 + 1; omega) _, ⟨H1.out.other (by omega) _, by rw [HE.out]; exact H2.out.set _⟩, H3.out.setCell (p := ⟨w.heap.size + 1 + 1, 0, none⟩) (by show _ ≤ w.heap.size + 1 + 1; omega) _⟩
  ·have hb : (x.dev == dev) = false := by rw [beq_eq_false_iff_ne]; exact hd
   have HE : Hid (lastOf dev (bI ++ [x]) = lastOf dev bI) := by show _ = _; rw [HS.out, if_neg hd]
   clear hd HS
   gi_wp2
   exact ⟨KeepsFrom.refl _ _, Below.refl _ _, ⟨H1.out, by rw [HE.out]; exact H2.out⟩, H3.out⟩
 case done =>
  rintro D ys W hD rfl ⟨⟨h1, h2⟩, h3⟩ hK; have g2 := h2.cell
  gi_wp2
  refine ⟨by simp, .inl ⟨_, _, rfl, run_takeDeferred hK, ?_⟩⟩
  exact ⟨_, results_tmp rfl _ _ _, rfl, h3.trans (belowK_b (w := w) aPw W D _ _ (by omega) hK rfl rfl)⟩
 case stop =>
  rintro D c bI W _ _ h _; exact h.elim
end Go.Proofs.YthkagbnpcjidfaaGreatDoor
namespace Go.Proofs.YthkagbnpcjidfaaGreatDoor
set_option maxRecDepth 100000
open Go.RowKit
set_option linter.unusedVariables false
set_option linter.unusedSimpArgs false
set_option maxHeartbeats 10000000 in
theorem aGt (w : World) (B : Nat) (av ao : Option Addr) (nv cv no co : Nat) (xs : List Int) (l : List aA) (dev : Int) (h : bK w B ao no l) (hB : B ≤ w.heap.size) (hn : no ≤ 1048576) (hc : aD xs l = true) : Calls Tryz.prog 87 #[.agg #[.slice av nv cv, .slice ao no co], .int .i64 dev] w fun e w' => e = .returned (.int .i64 (bV dev l l.length)) ∧ Below w.heap.size w w' := by
 have bC : Below w.heap.size w (w.alloc (.cells #[.slice av nv cv, .slice ao no co] 27)) := (Below.refl _ w).alloc aPw _
 have HO := aPu (h.below bC hB)
 have HB := aPu bC
 have HX := aPu (bE (Below.refl _ (w.alloc (.cells #[.slice av nv cv, .slice ao no co] 27))))
 have HL := aPu h.1
 have cP : w.heap.size < (w.alloc (.cells #[.slice av nv cv, .slice ao no co] 27)).heap.size := by show _ < (w.heap.push _).size; simp
 have HC : Hid (∀ k, k < no → 0 ≤ (l.getD k aA.zero).undos) := fun k hk => by
  obtain ⟨_, _, _, _, _, hok, _, _⟩ := fG hc (i := k) (by rw [h.1]; exact hk)
  exact (G5 hok).1
 clear h bC hc
 go_enter Tryz.func87, Tryz.ntmps87
 go_wp2_with fail
 generalize w.alloc (.cells #[.slice av nv cv, .slice ao no co] 27) = w0 at HO HB HX cP ⊢
 go_wp2
 go_loopw [5, 6] (fun n i wr => ∃ k : Nat, k ≤ no ∧ i = .int .i64 k ∧ n = .int .i64 (bV dev l k) ∧ Hid (Below w0.heap.size w0 wr)) (fun _ i _ => no - (intOf i).toNat)
 case atStart => exact ⟨0, Nat.zero_le _, rfl, rfl, Below.refl _ _⟩
 case round =>
  obtain ⟨k, hk, rfl, rfl, cS⟩ := hrel; obtain ⟨c0, c1⟩ := pair_cells ((cS.out.block _ cP).trans HX.out)
  by_cases aK : k < no
  rotate_left
  ·obtain rfl : k = no := by omega
   go_wp2
   go_ret
   exact ⟨by rw [HL.out]; rfl, HB.out.trans (cS.out.mono HB.out.size)⟩
  obtain ⟨b, off, rfl, hb, ho⟩ := HO.out.2 k aK; obtain ⟨d0, d1, d2, d3, d4, d5, d6, d7⟩ := ho.kept (cS.out.block b (by omega))
  have M4 := HC.out k aK; have HU : Hid (bV dev l (k + 1) = if (l.getD k aA.zero).dev = dev ∧ (l.getD k aA.zero).undos % 2 = 0 then (l.getD k aA.zero).seq else bV dev l k) := rfl; have cI := aPu ho; clear ho; generalize l.getD k aA.zero = x at HU M4 d0 d1 d2 d3 d4 d5 d6 d7 cI
  by_cases hd : x.dev = dev
  rotate_left
  ·have d8 : (x.dev == dev) = false := by rw [beq_eq_false_iff_ne]; exact hd
   have HE : Hid (bV dev l (k + 1) = bV dev l k) := by show _ = _; rw [HU.out, if_neg (fun h => hd h.1)]
   clear hd HU; go_wp2
   go_roundw
   case rel => exact ⟨k + 1, by omega, by go_num, by rw [HE.out], cS⟩
   case measure => simp [intOf]; omega
  have d8 : (x.dev == dev) = true := by rw [hd]; exact beq_self_eq_true _
  have HD := aPu hd; clear hd
  go_wp2_with fail
  refine (aCL x.dev x.seq x.stamp x.kind x.item x.qty x.level x.undos _ M4).mono ?_
  rintro e w2 ⟨rfl, aG⟩; have bP := aPu (cS.out.trans (aG.mono cS.out.size)); clear aG c0 c1 d0 d1 d2 d3 d4 d5 d6 d7; obtain ⟨c0, c1⟩ := pair_cells ((bP.out.block _ cP).trans HX.out); obtain ⟨d0, d1, d2, d3, d4, d5, d6, d7⟩ := cI.out.kept (bP.out.block b (by omega))
  by_cases hu : x.undos % 2 = 0
  ·have hq : decide (x.undos % 2 = 0) = true := decide_eq_true hu
   have HE : Hid (bV dev l (k + 1) = x.seq) := by show _ = _; rw [HU.out, if_pos ⟨HD.out, hu⟩]
   rw [hq]; clear hu hq HU; go_wp2
   go_roundw
   case rel => exact ⟨k + 1, by omega, by go_num, by rw [HE.out], bP⟩
   case measure => simp [intOf]; omega
  ·have hq : decide (x.undos % 2 = 0) = false := decide_eq_false hu
   have HE : Hid (bV dev l (k + 1) = bV dev l k) := by show _ = _; rw [HU.out, if_neg (fun h => hu h.2)]
   rw [hq]; clear hu hq HU; go_wp2
   go_roundw
   case rel => exact ⟨k + 1, by omega, by go_num, by rw [HE.out], bP⟩
   case measure => simp [intOf]; omega
def aMZ (l : List aA) (dev seq : Int) (w : World) (e : Ending) (w' : World) : Prop :=
 w = w' ∧ ((∃ i : Nat, i < l.length ∧ (aB l i).dev = dev ∧ (aB l i).seq = seq ∧ e = .returned (.int .i64 (i : Int))) ∨ ((∀ i, i < l.length → ¬ ((aB l i).dev = dev ∧ (aB l i).seq = seq)) ∧ e = .returned (.int .i64 (-1))))
set_option maxHeartbeats 10000000 in
theorem aJq (w : World) (B : Nat) (ao : Option Addr) (no co : Nat) (l : List aA) (dev seq : Int) (h : bK w B ao no l) (hn : no ≤ 1048576) : Calls Tryz.prog 118 #[.slice ao no co, .int .i64 dev, .int .i64 seq] w (aMZ l dev seq w) := by
 have HO := aPu h
 have HL := aPu h.1
 clear h
 go_enter Tryz.func118, Tryz.ntmps118
 go_wp2
 go_loop [7] (fun i => ∃ k : Nat, k ≤ no ∧ i = .int .i64 k ∧ Hid (∀ j, j < k → ¬ ((aB l j).dev = dev ∧ (aB l j).seq = seq))) (fun i => no - (intOf i).toNat)
 case atStart => exact ⟨0, Nat.zero_le _, rfl, fun j hj => by omega⟩
 case round =>
  obtain ⟨k, hk, rfl, HN⟩ := hrel
  by_cases aK : k < no
  rotate_left
  ·obtain rfl : k = no := by omega
   go_wp2
   go_ret
   exact ⟨rfl, .inr ⟨by rw [HL.out]; exact HN.out, rfl⟩⟩
  obtain ⟨b, off, rfl, hb, ho⟩ := HO.out.2 k aK; obtain ⟨d0, d1, _⟩ := ho; have HA : Hid (l.getD k aA.zero = aB l k) := rfl; rw [HA.out] at d0 d1
  by_cases hd : (aB l k).dev = dev ∧ (aB l k).seq = seq
  ·have HD := aPu hd
   have b1 : ((aB l k).dev == dev) = true := by rw [hd.1]; exact beq_self_eq_true _
   have b2 : ((aB l k).seq == seq) = true := by rw [hd.2]; exact beq_self_eq_true _
   clear hd; generalize hx : aB l k = x at b1 b2 d0 d1; have HXe := aPu hx; clear hx; go_wp2
   go_ret
   exact ⟨rfl, .inl ⟨k, by rw [HL.out]; exact aK, HD.out.1, HD.out.2, rfl⟩⟩
  ·have mN : Hid (∀ j, j < k + 1 → ¬ ((aB l j).dev = dev ∧ (aB l j).seq = seq)) := fun j hj => by
    rcases Nat.lt_or_ge j k with h1 | h1
    ·exact HN.out j h1
    ·obtain rfl : j = k := by omega
     exact hd
   by_cases h1 : (aB l k).dev = dev
   ·have h2 : ¬ (aB l k).seq = seq := fun h => hd ⟨h1, h⟩
    have b1 : ((aB l k).dev == dev) = true := by rw [h1]; exact beq_self_eq_true _
    have b2 : ((aB l k).seq == seq) = false := by rw [beq_eq_false_iff_ne]; exact h2
    clear hd h1 h2; generalize aB l k = x at b1 b2 d0 d1; go_wp2
    go_round
    case rel => exact ⟨k + 1, by omega, by go_num, mN⟩
    case measure => simp [intOf]; omega
   ·have b1 : ((aB l k).dev == dev) = false := by rw [beq_eq_false_iff_ne]; exact h1
    clear hd h1; generalize aB l k = x at b1 d0 d1; go_wp2
    go_round
    case rel => exact ⟨k + 1, by omega, by go_num, mN⟩
    case measure => simp [intOf]; omega
def jH (xs : List Int) (d : Nat) (l : List aA) : Int := if bV (d : Int) l l.length + 1 ≤ xs.getD d 0 then bV (d : Int) l l.length + 1 else 0
set_option maxHeartbeats 10000000 in
theorem aK8 (w : World) (B : Nat) (av ao : Option Addr) (nv cv no co : Nat) (xs : List Int) (l : List aA) (d : Nat) (hd : d < 4) (h : bK w B ao no l) (hB : B ≤ w.heap.size) (hn : no ≤ 1048576) (hc : aD xs l = true) : Calls Tryz.prog 88 #[.agg #[.slice av nv cv, .slice ao no co], .int .i64 (d : Int)] w fun e w' => e = .returned (.int .i64 (jH xs d l)) ∧ Below w.heap.size w w' := by
 have bC : Below w.heap.size w (w.alloc (.cells #[.slice av nv cv, .slice ao no co] 27)) := (Below.refl _ w).alloc aPw _
 have HO := aPu (h.below bC hB)
 have HB := aPu bC
 have HX := aPu (bE (Below.refl _ (w.alloc (.cells #[.slice av nv cv, .slice ao no co] 27))))
 have HL := aPu h.1
 have cP : w.heap.size < (w.alloc (.cells #[.slice av nv cv, .slice ao no co] 27)).heap.size := by show _ < (w.heap.push _).size; simp
 have HC := aPu hc
 have HR := aPu (aD7 hc d l.length aPw)
 have HH := aPu (fun (n : Int) hn => aG9 hc hd (n := n) hn)
 have cV := HR.out.1
 have dN := HR.out.2
 have V2 : Hid (jH xs d l = if bV (d : Int) l l.length + 1 ≤ xs.getD d 0 then bV (d : Int) l l.length + 1 else 0) := rfl
 clear h bC hc
 obtain ⟨c0, c1⟩ := pair_cells HX.out
 go_enter Tryz.func88, Tryz.ntmps88
 go_wp2_with fail
 generalize w.alloc (.cells #[.slice av nv cv, .slice ao no co] 27) = w0 at HO HB HX cP c0 c1 ⊢
 refine (aGt w0 B av ao nv cv no co xs l (d : Int) HO.out (by omega) hn HC.out).mono ?_
 rintro e w2 ⟨rfl, aG⟩
 have nT := aPu ((aG.block _ cP).trans HX.out)
 have fZ := aPu (HO.out.below aG (by omega))
 have bP := aPu (HB.out.trans (aG.mono HB.out.size))
 clear aG c0 c1 HX HO HB
 obtain ⟨c0, c1⟩ := pair_cells nT.out
 generalize bV (d : Int) l l.length = u at cV dN V2 ⊢
 go_wp2_with fail
 refine (aJq w2 B ao no co l (d : Int) (u + 1) fZ.out hn).mono ?_
 rintro e w' ⟨rfl, ⟨i, hi, h1, h2, rfl⟩ | ⟨iP, rfl⟩⟩
 ·have HE : Hid (jH xs d l = u + 1) := by show _ = _; rw [V2.out, if_pos ((HH.out (u + 1) (by omega)).2 ⟨i, hi, h1, h2⟩)]
  clear hi h1 h2; have aK : decide ((i : Int) < 0) = false := decide_eq_false (by omega)
  go_wp2
  go_ret
  exact ⟨by rw [HE.out]; rfl, bP.out⟩
 ·have HE : Hid (jH xs d l = 0) := by
   show _ = _
   rw [V2.out, if_neg (fun h => by
    obtain ⟨i, hi, h1, h2⟩ := (HH.out (u + 1) (by omega)).1 h
    exact iP i hi ⟨h1, h2⟩)]
  clear iP; go_wp2
  go_ret
  exact ⟨by rw [HE.out]; rfl, bP.out⟩
def cK.cells (s : cK) : Array Value := #[.int .i64 s.level, .int .i64 s.counted.dev, .int .i64 s.counted.seq, .int .i64 s.counted.stamp, .int .i64 s.counted.kind, .string s.counted.item, .int .i64 s.counted.qty, .int .i64 s.counted.level, .int .i64 s.counted.undos, .int .i64 s.placed.dev, .int .i64 s.placed.seq, .int .i64 s.placed.stamp, .int .i64 s.placed.kind, .string s.placed.item, .int .i64 s.placed.qty, .int .i64 s.placed.level, .int .i64 s.placed.undos]
def cK.val (s : cK) : Value := .agg s.cells
theorem kL {w : World} {b : Nat} {cs : Array Value} {T : TypeId} (h : w.heap[b]? = some (.cells cs T (0, 0))) : w.frozen? ⟨b, 0, none⟩ = false ∧ w.frozen? ⟨b, 1, none⟩ = false ∧ w.frozen? ⟨b, 2, none⟩ = false ∧ w.frozen? ⟨b, 3, none⟩ = false ∧ w.frozen? ⟨b, 4, none⟩ = false ∧ w.frozen? ⟨b, 5, none⟩ = false ∧ w.frozen? ⟨b, 6, none⟩ = false ∧ w.frozen? ⟨b, 7, none⟩ = false ∧ w.frozen? ⟨b, 8, none⟩ = false ∧ w.frozen? ⟨b, 9, none⟩ = false ∧ w.frozen? ⟨b, 10, none⟩ = false ∧ w.frozen? ⟨b, 11, none⟩ = false ∧ w.frozen? ⟨b, 12, none⟩ = false ∧ w.frozen? ⟨b, 13, none⟩ = false ∧ w.frozen? ⟨b, 14, none⟩ = false ∧ w.frozen? ⟨b, 15, none⟩ = false ∧ w.frozen? ⟨b, 16, none⟩ = false :=
 ⟨aPy h, aPy h, aPy h, aPy h, aPy h, aPy h, aPy h, aPy h, aPy h, aPy h, aPy h, aPy h, aPy h, aPy h, aPy h, aPy h, aPy h⟩
structure kD (w w1 : World) (x y z : Array Value) (S T U : TypeId) : Prop where
 fst : w1.heap[w.heap.size]? = some (.cells x S (0, 0))
 snd : w1.heap[w.heap.size + 1]? = some (.cells y T (0, 0))
 res : w1.heap[w.heap.size + 1 + 1]? = some (.cells z U (0, 0))
 bel : Below w.heap.size w w1
theorem kD.mk0 (w : World) (x y z : Array Value) (S T U : TypeId) : kD w (((w.alloc (.cells x S)).alloc (.cells y T)).alloc (.cells z U)) x y z S T U := by
 have e1 : (w.alloc (.cells x S)).heap.size = w.heap.size + 1 := by simp
 have e2 : ((w.alloc (.cells x S)).alloc (.cells y T)).heap.size = w.heap.size + 1 + 1 := by simp
 refine ⟨?_, ?_, ?_, (((Below.refl _ w).alloc aPw _).alloc (by simp) _).alloc (by simp; omega) _⟩
 ·rw [Below.heap_alloc _ _ _ (by omega), Below.heap_alloc _ _ _ (by omega)]
  exact World.alloc_heap_new w _
 ·rw [Below.heap_alloc _ _ _ (by omega), ← e1]
  exact World.alloc_heap_new _ _
 ·rw [← e2]
  exact World.alloc_heap_new _ _
theorem kD.next {w w1 w2 : World} {x y z : Array Value} {S T U : TypeId} (h : kD w w1 x y z S T U) (hb : Below w1.heap.size w1 w2) : kD w w2 x y z S T U :=
 ⟨(hb.block _ (aPv h.fst).1).trans h.fst, (hb.block _ (aPv h.snd).1).trans h.snd, (hb.block _ (aPv h.res).1).trans h.res, h.bel.trans (hb.mono h.bel.size)⟩
set_option maxHeartbeats 10000000 in
theorem Q9 (a b : aA) (w : World) : Calls Tryz.prog 123 #[a.val, b.val] w fun e w' => e = .returned (jA a b).val ∧ Below w.heap.size w w' := by
 have H := aPu (kD.mk0 w #[.int .i64 a.dev, .int .i64 a.seq, .int .i64 a.stamp, .int .i64 a.kind, .string a.item, .int .i64 a.qty, .int .i64 a.level, .int .i64 a.undos] #[.int .i64 b.dev, .int .i64 b.seq, .int .i64 b.stamp, .int .i64 b.kind, .string b.item, .int .i64 b.qty, .int .i64 b.level, .int .i64 b.undos] #[.int .i64 0, .int .i64 0, .int .i64 0, .int .i64 0, .string ⟨#[]⟩, .int .i64 0, .int .i64 0, .int .i64 0] 50 50 50)
 show Calls Tryz.prog 123 #[.agg #[.int .i64 a.dev, .int .i64 a.seq, .int .i64 a.stamp, .int .i64 a.kind, .string a.item, .int .i64 a.qty, .int .i64 a.level, .int .i64 a.undos], .agg #[.int .i64 b.dev, .int .i64 b.seq, .int .i64 b.stamp, .int .i64 b.kind, .string b.item, .int .i64 b.qty, .int .i64 b.level, .int .i64 b.undos]] w _
 rcases hbf : t8 b a with _ | _
 ·have HE : Hid (jA a b = b) := by show _ = _; unfold jA; rw [hbf]; rfl
  have HQ := aPu hbf; clear hbf
  go_enter Tryz.func123, Tryz.ntmps123
  go_wp2_with fail
  generalize ((w.alloc (.cells #[.int .i64 a.dev, .int .i64 a.seq, .int .i64 a.stamp, .int .i64 a.kind, .string a.item, .int .i64 a.qty, .int .i64 a.level, .int .i64 a.undos] 50)).alloc (.cells #[.int .i64 b.dev, .int .i64 b.seq, .int .i64 b.stamp, .int .i64 b.kind, .string b.item, .int .i64 b.qty, .int .i64 b.level, .int .i64 b.undos] 50)).alloc (.cells #[.int .i64 0, .int .i64 0, .int .i64 0, .int .i64 0, .string ⟨#[]⟩, .int .i64 0, .int .i64 0, .int .i64 0] 50) = w0 at H ⊢; refine (aAv b.dev b.seq b.stamp b.kind b.item b.qty b.level b.undos a.dev a.seq a.stamp a.kind a.item a.qty a.level a.undos w0).mono ?_
  rintro e w1 ⟨rfl, hb⟩; have H1 := aPu (H.out.next hb); clear hb H; have HQ2 : Hid (K3 b.dev b.seq b.stamp b.kind b.item b.qty b.level b.undos a.dev a.seq a.stamp a.kind a.item a.qty a.level a.undos = false) := HQ.out; rw [HQ2.out]; obtain ⟨c0, c1, c2, c3, c4, c5, c6, c7⟩ := aM H1.out.snd; obtain ⟨e0, e1, e2, e3, e4, e5, e6, e7⟩ := aM H1.out.res; obtain ⟨f0, f1, f2, f3, f4, f5, f6, f7⟩ := cL H1.out.res; go_wp2
  have HX := aPu (gU (.int .i64 b.dev) (.int .i64 b.seq) (.int .i64 b.stamp) (.int .i64 b.kind) (.string b.item) (.int .i64 b.qty) (.int .i64 b.level) (.int .i64 b.undos) H1.out.res); have HB := aPu (gA (.int .i64 b.dev) (.int .i64 b.seq) (.int .i64 b.stamp) (.int .i64 b.kind) (.string b.item) (.int .i64 b.qty) (.int .i64 b.level) (.int .i64 b.undos) H1.out.bel (by show _ ≤ w.heap.size + 1 + 1; omega))
  clear c0 c1 c2 c3 c4 c5 c6 c7 e0 e1 e2 e3 e4 e5 e6 e7 f0 f1 f2 f3 f4 f5 f6 f7
  change bodyPost _ _ _ _ _ (bF w1 (w.heap.size + 1 + 1) (.int .i64 b.dev) (.int .i64 b.seq) (.int .i64 b.stamp) (.int .i64 b.kind) (.string b.item) (.int .i64 b.qty) (.int .i64 b.level) (.int .i64 b.undos))
  generalize bF w1 (w.heap.size + 1 + 1) (.int .i64 b.dev) (.int .i64 b.seq) (.int .i64 b.stamp) (.int .i64 b.kind) (.string b.item) (.int .i64 b.qty) (.int .i64 b.level) (.int .i64 b.undos) = wf at HX HB ⊢; obtain ⟨d0, d1, d2, d3, d4, d5, d6, d7⟩ := aM HX.out; exact bodyPost_ret (v := .agg #[.int .i64 b.dev, .int .i64 b.seq, .int .i64 b.stamp, .int .i64 b.kind, .string b.item, .int .i64 b.qty, .int .i64 b.level, .int .i64 b.undos]) (by simp [results, Tryz.results123, go_sem, d0, d1, d2, d3, d4, d5, d6, d7]) rfl ⟨by rw [HE.out]; rfl, HB.out⟩
 ·have HE : Hid (jA a b = a) := by show _ = _; unfold jA; rw [hbf]; rfl
  have HQ := aPu hbf; clear hbf
  go_enter Tryz.func123, Tryz.ntmps123
  go_wp2_with fail
  generalize ((w.alloc (.cells #[.int .i64 a.dev, .int .i64 a.seq, .int .i64 a.stamp, .int .i64 a.kind, .string a.item, .int .i64 a.qty, .int .i64 a.level, .int .i64 a.undos] 50)).alloc (.cells #[.int .i64 b.dev, .int .i64 b.seq, .int .i64 b.stamp, .int .i64 b.kind, .string b.item, .int .i64 b.qty, .int .i64 b.level, .int .i64 b.undos] 50)).alloc (.cells #[.int .i64 0, .int .i64 0, .int .i64 0, .int .i64 0, .string ⟨#[]⟩, .int .i64 0, .int .i64 0, .int .i64 0] 50) = w0 at H ⊢; refine (aAv b.dev b.seq b.stamp b.kind b.item b.qty b.level b.undos a.dev a.seq a.stamp a.kind a.item a.qty a.level a.undos w0).mono ?_
  rintro e w1 ⟨rfl, hb⟩; have H1 := aPu (H.out.next hb); clear hb H; have HQ2 : Hid (K3 b.dev b.seq b.stamp b.kind b.item b.qty b.level b.undos a.dev a.seq a.stamp a.kind a.item a.qty a.level a.undos = true) := HQ.out; rw [HQ2.out]; obtain ⟨c0, c1, c2, c3, c4, c5, c6, c7⟩ := aM H1.out.fst; obtain ⟨e0, e1, e2, e3, e4, e5, e6, e7⟩ := aM H1.out.res; obtain ⟨f0, f1, f2, f3, f4, f5, f6, f7⟩ := cL H1.out.res; go_wp2
  have HX := aPu (gU (.int .i64 a.dev) (.int .i64 a.seq) (.int .i64 a.stamp) (.int .i64 a.kind) (.string a.item) (.int .i64 a.qty) (.int .i64 a.level) (.int .i64 a.undos) H1.out.res); have HB := aPu (gA (.int .i64 a.dev) (.int .i64 a.seq) (.int .i64 a.stamp) (.int .i64 a.kind) (.string a.item) (.int .i64 a.qty) (.int .i64 a.level) (.int .i64 a.undos) H1.out.bel (by show _ ≤ w.heap.size + 1 + 1; omega))
  clear c0 c1 c2 c3 c4 c5 c6 c7 e0 e1 e2 e3 e4 e5 e6 e7 f0 f1 f2 f3 f4 f5 f6 f7
  change bodyPost _ _ _ _ _ (bF w1 (w.heap.size + 1 + 1) (.int .i64 a.dev) (.int .i64 a.seq) (.int .i64 a.stamp) (.int .i64 a.kind) (.string a.item) (.int .i64 a.qty) (.int .i64 a.level) (.int .i64 a.undos))
  generalize bF w1 (w.heap.size + 1 + 1) (.int .i64 a.dev) (.int .i64 a.seq) (.int .i64 a.stamp) (.int .i64 a.kind) (.string a.item) (.int .i64 a.qty) (.int .i64 a.level) (.int .i64 a.undos) = wf at HX HB ⊢; obtain ⟨d0, d1, d2, d3, d4, d5, d6, d7⟩ := aM HX.out; exact bodyPost_ret (v := .agg #[.int .i64 a.dev, .int .i64 a.seq, .int .i64 a.stamp, .int .i64 a.kind, .string a.item, .int .i64 a.qty, .int .i64 a.level, .int .i64 a.undos]) (by simp [results, Tryz.results123, go_sem, d0, d1, d2, d3, d4, d5, d6, d7]) rfl ⟨by rw [HE.out]; rfl, HB.out⟩
def oW (xs : List Int) (l : List aA) (dev : Int) : Int := if aD xs l = true ∧ cO dev 0 3 = true then bV dev l l.length else 0
def rG (xs : List Int) (l : List aA) (dev : Int) : Int := if aD xs l = true ∧ cO dev 0 3 = true then jH xs dev.toNat l else 0
theorem aBJ (xs : List Int) (l : List aA) (dev : Int) : lastOf dev (counted xs l) = oW xs l dev := by
 unfold counted oW
 by_cases hc : aD xs l = true
 ·rw [if_pos hc, aBq hc dev _ aPw]
  by_cases hd : cO dev 0 3 = true
  ·rw [if_pos ⟨hc, hd⟩]
  ·rw [if_neg (fun h => hd h.2), Y4 hc (fun h => hd (eR.2 h)) _ aPw]
 ·rw [if_neg hc, if_neg (fun h => hc h.1)]
  rfl
theorem aCr {xs : List Int} {l : List aA} {dev : Int} (h : aD xs l = false ∨ cO dev 0 3 = false) : rG xs l dev = 0 := by
 unfold rG
 rw [if_neg (fun k => by rcases h with h | h <;> simp [h] at k)]
def G0 (n : Int) (w : World) (e : Ending) (w' : World) : Prop := e = .returned (.tuple #[.int .i64 n, .bool (decide (0 < n))]) ∧ Below w.heap.size w w'
theorem aCi {n : Int} {w w' : World} (h : n = 0) (hb : Below w.heap.size w w') : G0 n w (.returned (.tuple #[.int .i64 0, .bool false])) w' := ⟨by rw [h]; rfl, hb⟩
theorem aJG {n m : Int} {w w' : World} (h : n = m) (h0 : 0 < m) (hb : Below w.heap.size w w') : G0 n w (.returned (.tuple #[.int .i64 m, .bool true])) w' := ⟨by rw [h, decide_eq_true h0], hb⟩
theorem vO (dev : Int) (w : World) : Calls Tryz.prog 53 #[.int .i64 dev] w fun e w' => e = .returned (.bool (cO dev 0 3)) ∧ w = w' := by
 go_enter Tryz.func53, Tryz.ntmps53
 go_wp2_with fail
 refine (cE _ _ _ _).mono ?_
 rintro e w' ⟨rfl, rfl⟩
 go_wp2
 go_ret
 exact ⟨rfl, rfl⟩
set_option maxHeartbeats 10000000 in
theorem aCT (w : World) (B : Nat) (av ao : Option Addr) (nv cv no co : Nat) (xs : List Int) (l : List aA) (dev : Int) (hx : Ints w B av nv xs) (h : bK w B ao no l) (hB : B ≤ w.heap.size) (hv : nv ≤ 1048576) (hc : no ≤ co) (cM : Fits no co) : Calls Tryz.prog 34 #[.agg #[.slice av nv cv, .slice ao no co], .int .i64 dev] w (G0 (oW xs l dev) w) := by
 have tF : no ≤ 1048576 := cM.1
 have bC : Below w.heap.size w (w.alloc (.cells #[.slice av nv cv, .slice ao no co] 27)) := (Below.refl _ w).alloc aPw _
 have HV := aPu (hx.below bC hB)
 have HO := aPu (h.below bC hB)
 have HB := aPu bC
 have HX := aPu (bE (Below.refl _ (w.alloc (.cells #[.slice av nv cv, .slice ao no co] 27))))
 have cP : w.heap.size < (w.alloc (.cells #[.slice av nv cv, .slice ao no co] 27)).heap.size := by show _ < (w.heap.push _).size; simp
 clear hx h bC
 obtain ⟨c0, c1⟩ := pair_cells HX.out
 go_enter Tryz.func34, Tryz.ntmps34
 go_wp2_with fail
 generalize w.alloc (.cells #[.slice av nv cv, .slice ao no co] 27) = w0 at HV HO HB HX cP c0 c1 ⊢
 refine (aCJ w0 B av ao nv cv no co xs l dev HV.out HO.out (by omega) hv hc cM).mono ?_
 rintro e w1 ⟨rfl, hb⟩
 rw [aBJ]
 have oZ := aPu ((hb.block _ (aPv HX.out).1).trans HX.out)
 have iA := aPu (HV.out.below hb (by omega))
 have cI := aPu (HO.out.below hb (by omega))
 have cX := aPu (HB.out.trans (hb.mono HB.out.size))
 have dZ := hb.size
 clear hb c0 c1 HX HV HO HB
 obtain ⟨c0, c1⟩ := pair_cells oZ.out
 go_wp2
 go_ret2
 exact ⟨rfl, cX.out⟩
set_option maxHeartbeats 10000000 in
theorem aH3 (w : World) (B : Nat) (av ao : Option Addr) (nv cv no co : Nat) (xs : List Int) (l : List aA) (dev : Int) (hx : Ints w B av nv xs) (h : bK w B ao no l) (hB : B ≤ w.heap.size) (hv : nv ≤ 1048576) (hc : no ≤ co) (cM : Fits no co) : Calls Tryz.prog 28 #[.agg #[.slice av nv cv, .slice ao no co], .int .i64 dev] w (G0 (rG xs l dev) w) := by
 have tF : no ≤ 1048576 := cM.1
 have bC : Below w.heap.size w (w.alloc (.cells #[.slice av nv cv, .slice ao no co] 27)) := (Below.refl _ w).alloc aPw _
 have HV := aPu (hx.below bC hB)
 have HO := aPu (h.below bC hB)
 have HB := aPu bC
 have HX := aPu (bE (Below.refl _ (w.alloc (.cells #[.slice av nv cv, .slice ao no co] 27))))
 have cP : w.heap.size < (w.alloc (.cells #[.slice av nv cv, .slice ao no co] 27)).heap.size := by show _ < (w.heap.push _).size; simp
 clear hx h bC
 obtain ⟨c0, c1⟩ := pair_cells HX.out
 rcases hcb : aD xs l with _ | _
 ·have HN := aPu (aCr (dev := dev) (.inl hcb))
  have HC := aPu hcb; clear hcb
  go_enter Tryz.func28, Tryz.ntmps28
  go_wp2_with fail
  generalize w.alloc (.cells #[.slice av nv cv, .slice ao no co] 27) = w0 at HV HO HB HX cP c0 c1 ⊢; refine (iM w0 B av ao nv cv no co xs l HV.out HO.out (by omega) hv hc cM).mono ?_
  rintro e w1 ⟨rfl, hb⟩; rw [HC.out]; have oZ := aPu ((hb.block _ (aPv HX.out).1).trans HX.out); have iA := aPu (HV.out.below hb (by omega))
  have cI := aPu (HO.out.below hb (by omega))
  have cX := aPu (HB.out.trans (hb.mono HB.out.size)); have dZ := hb.size; clear hb c0 c1 HX HV HO HB; obtain ⟨c0, c1⟩ := pair_cells oZ.out; go_wp2
  go_ret2
  exact aCi HN.out cX.out
 have HC := aPu hcb
 rcases hd : cO dev 0 3 with _ | _
 ·have HN := aPu (aCr (xs := xs) (l := l) (.inr hd))
  have HD := aPu hd; clear hcb hd
  go_enter Tryz.func28, Tryz.ntmps28
  go_wp2_with fail
  generalize w.alloc (.cells #[.slice av nv cv, .slice ao no co] 27) = w0 at HV HO HB HX cP c0 c1 ⊢; refine (iM w0 B av ao nv cv no co xs l HV.out HO.out (by omega) hv hc cM).mono ?_
  rintro e w1 ⟨rfl, hb⟩; rw [HC.out]; have oZ := aPu ((hb.block _ (aPv HX.out).1).trans HX.out); have iA := aPu (HV.out.below hb (by omega))
  have cI := aPu (HO.out.below hb (by omega))
  have cX := aPu (HB.out.trans (hb.mono HB.out.size)); have dZ := hb.size; clear hb c0 c1 HX HV HO HB; obtain ⟨c0, c1⟩ := pair_cells oZ.out
  go_wp2_with fail
  refine (vO _ _).mono ?_
  rintro e w' ⟨rfl, rfl⟩; rw [HD.out]; go_wp2
  go_ret2
  exact aCi HN.out cX.out
 have HD := aPu hd
 obtain ⟨g1, g2⟩ := eR.1 hd
 obtain ⟨d, rfl⟩ := Int.eq_ofNat_of_zero_le g1
 have yQ : d < 4 := by omega
 have HU : Hid (oW xs l (d : Int) = bV (d : Int) l l.length) := by show _ = _; unfold oW; rw [if_pos ⟨hcb, hd⟩]
 have HR : Hid (rG xs l (d : Int) = if bV (d : Int) l l.length + 1 ≤ xs.getD d 0 then bV (d : Int) l l.length + 1 else 0) := by show _ = _; unfold rG; rw [if_pos ⟨hcb, hd⟩, Int.toNat_natCast]; rfl
 have O1 := aPu (aD7 hcb d l.length aPw)
 have hu1 := O1.out.1
 have hu2 := O1.out.2
 have HVe := aPu (eM (pV hcb).1 yQ)
 have hnv : nv = 4 := HV.out.1.symm.trans HVe.out.2.2
 subst hnv
 clear hcb hd g1 g2
 go_enter Tryz.func28, Tryz.ntmps28
 go_wp2_with fail
 generalize w.alloc (.cells #[.slice av 4 cv, .slice ao no co] 27) = w0 at HV HO HB HX cP c0 c1 ⊢
 refine (iM w0 B av ao 4 cv no co xs l HV.out HO.out (by omega) hv hc cM).mono ?_
 rintro e w1 ⟨rfl, hb⟩
 rw [HC.out]
 have oZ := aPu ((hb.block _ (aPv HX.out).1).trans HX.out)
 have iA := aPu (HV.out.below hb (by omega))
 have cI := aPu (HO.out.below hb (by omega))
 have cX := aPu (HB.out.trans (hb.mono HB.out.size))
 have dZ := hb.size
 clear hb c0 c1 HX HV HO HB
 obtain ⟨c0, c1⟩ := pair_cells oZ.out
 go_wp2_with fail
 refine (vO _ _).mono ?_
 rintro e w' ⟨rfl, rfl⟩
 rw [HD.out]
 go_wp2_with fail
 refine (aCJ w1 B av ao 4 cv no co xs l (d : Int) iA.out cI.out (by omega) hv hc cM).mono ?_
 rintro e w2 ⟨rfl, hb⟩
 rw [aBJ, HU.out]
 have nT := aPu ((hb.block _ (aPv oZ.out).1).trans oZ.out)
 have jW := aPu (iA.out.below hb (by omega))
 have fZ := aPu (cI.out.below hb (by omega))
 have bP := aPu (cX.out.trans (hb.mono cX.out.size))
 have dS := hb.size
 clear hb c0 c1 oZ iA cI cX
 obtain ⟨c0, c1⟩ := pair_cells nT.out
 generalize bV (d : Int) l l.length = u at HR hu1 hu2 ⊢
 obtain ⟨bv, ov, rfl, hbv, cv'⟩ := jW.out.2 d yQ
 have wP := HVe.out.2.1
 generalize xs.getD d 0 = y at HR cv' wP
 by_cases hy : u + 1 ≤ y
 ·have HE : Hid (rG xs l (d : Int) = u + 1) := by show _ = _; rw [HR.out, if_pos hy]
  have aK : ¬ y < u + 1 := by omega
  clear HR; go_wp2
  go_ret2
  exact aJG HE.out (by omega) bP.out
 ·have HE : Hid (rG xs l (d : Int) = 0) := by show _ = _; rw [HR.out, if_neg hy]
  have aK : y < u + 1 := by omega
  clear HR hy; go_wp2
  go_ret2
  exact aCi HE.out bP.out
end Go.Proofs.YthkagbnpcjidfaaGreatDoor
