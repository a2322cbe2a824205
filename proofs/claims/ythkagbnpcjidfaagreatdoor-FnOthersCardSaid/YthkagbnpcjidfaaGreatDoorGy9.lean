/- Walks and mathematics that several claims share, part 9. -/
import Derived.Test.YthkagbnpcjidfaaGreatDoorGy8
import Derived.Test.YthkagbnpcjidfaaGreatDoorGy2
import Derived.Test.YthkagbnpcjidfaaGreatDoorGy5
import Derived.RangeFuncNested
import Derived.RangeFuncBound
import Derived.RangeFuncCalls
import Derived.RangeFuncLeaves
import Derived.Shelf.Abstract
import Derived.Shelf.RegionOpen
import Derived.OwnWalkIn
import Derived.TacticsInMore
import Derived.LoopNIn
import Derived.LoopIn
import Derived.Lib.MinMax
import Derived.Deep.Cut
import Derived.Test.YthkagbnpcjidfaaGreatDoorGyA
namespace Go.Proofs.YthkagbnpcjidfaaGreatDoor
set_option maxHeartbeats 10000000
set_option maxRecDepth 100000
open Go.RowKit Go.Shelf
attribute [local go_sem] Oper.semAt_some

theorem aCt (cs : Array Value) (w : World) (n : Nat) :
  CallsIn Fence.wide n Tryz.prog 92 #[.agg cs] w fun e w' => e = .returned (.func (.func 122) #[] #[.pointer (some ⟨w.heap.size, 0, none⟩)]) ∧ w' = w.alloc (.cells cs 27) := by
 refine callsIn_of_wp Tryz.func92 rfl trivial ?_ rfl
 simp only [Tryz.ntmps92, List.size_toArray, List.length_cons, List.length_nil, Nat.reduceAdd, Nat.reduceSub, Array.replicate_succ, Array.replicate_zero, List.push_toArray, List.append_toArray, List.nil_append, List.cons_append]
 gi_wp2
 go_ret
 exact ⟨rfl, rfl⟩
/-- How the iterator ends: all live operations of a valid cart have come, or a round has said that it wants no more. -/
def W5 (xs : List Int) (l : List aA) (J Jx : List aA → World → Prop) (e : Ending) (W' : World) : Prop :=
 (∃ v, e = .returned v) ∧ ((∃ ys, ys = (if aE xs l = true then jC l l.length else []) ∧ J ys W') ∨ (∃ bR : List aA, True ∧ Jx bR W'))
theorem aD3 {xs : List Int} {l : List aA} {J Jx : List aA → World → Prop} {v : Value} {W' : World} (h : aE xs l = false) (hJ : J [] W') : W5 xs l J Jx (.returned v) W' :=
 ⟨⟨_, rfl⟩, .inl ⟨[], by rw [h]; rfl, hJ⟩⟩
theorem aDs {xs : List Int} {l : List aA} {J Jx : List aA → World → Prop} {v : Value} {W' : World} (h : aE xs l = true) (hJ : J (jC l l.length) W') : W5 xs l J Jx (.returned v) W' :=
 ⟨⟨_, rfl⟩, .inl ⟨_, by rw [if_pos h], hJ⟩⟩
theorem aCr {xs : List Int} {l : List aA} {J Jx : List aA → World → Prop} {v : Value} {W' : World} (bR : List aA) (hJ : Jx bR W') : W5 xs l J Jx (.returned v) W' :=
 ⟨⟨_, rfl⟩, .inr ⟨bR, trivial, hJ⟩⟩
theorem aIy {l : List aA} {k : Nat} (h : k < l.length) : l.getD k aA.zero ∈ l := by
 rw [List.getD_eq_getElem?_getD, List.getElem?_eq_getElem h]
 exact List.getElem_mem h
theorem below_grown {w w' : World} (h : Below w.heap.size w w') : w.grownBy w' none := ⟨h.os, h.tape, h.output, h.size, fun k hk _ => h.block k hk⟩

theorem aD4 (n : Nat) (hn : 1 ≤ n) (lp Bc n₀ : Nat) (av ao : Option Addr) (nv cv no co : Nat) (xs : List Int) (l : List aA) (hv : nv ≤ 1048576) (hc : no ≤ co) (cM : Fits no co)
  (J Jx : List aA → World → Prop) (hJ : ∀ s W W', J s W → W.grownBy W' none → J s W')
  (hY : ∀ bR x W, J bR W → bR.length < l.length → x ∈ l → YieldAt Fence.wide (n - 1) Tryz.prog lp #[aA.val x] W fun e W' => (e = .returned (.bool true) ∧ J (bR ++ [x]) W' ∧ Below n₀ W W') ∨ (e = .returned (.bool false) ∧ Jx (bR ++ [x]) W'))
  (W : World) (hBc : W.heap[Bc]? = some (.cells #[.slice av nv cv, .slice ao no co] 27 (0, 0))) (hx : Ints W n₀ av nv xs) (h : bS W n₀ ao no l) (hn₀ : n₀ ≤ W.heap.size) (h0 : J [] W) :
  CallsIn Fence.wide n Tryz.prog 122 #[.func (.yield lp) #[] #[], .pointer (some ⟨Bc, 0, none⟩)] W (W5 xs l J Jx) := by
 have J5 : no ≤ 1048576 := cM.1
 have HX := aRA hx
 have HO := aRA h
 have HC := aRA hBc
 have HL := aRA h.1
 have HJ := aRA hJ
 have HY := aRA hY
 have H0 := aRA h0
 obtain ⟨c0, c1⟩ := pair_cells hBc
 clear hx h hBc hJ hY h0
 refine callsIn_of_wp Tryz.func122 rfl trivial ?_ rfl
 simp only [Tryz.ntmps122, List.size_toArray, List.length_cons, List.length_nil, Nat.reduceAdd, Nat.reduceSub, Array.replicate_succ, Array.replicate_zero, List.push_toArray, List.append_toArray, List.nil_append, List.cons_append]
 gi_wp2_with fail
 refine ⟨trivial, (callsIn_wide.2 (tD W n₀ av ao nv cv no co xs l HX.out HO.out hn₀ hv hc cM)).mono ?_⟩
 rintro e w1 ⟨rfl, hb⟩
 have HJ1 := aRA (HJ.out _ _ _ H0.out (below_grown hb))
 have dL := aRA (HO.out.below hb hn₀)
 have P8 := aRA ((hb.block _ (aRB HC.out).1).trans HC.out)
 have fH := hb.size
 clear hb c0 c1 H0 HX HO HC
 obtain ⟨c0, c1⟩ := pair_cells P8.out
 rcases hcb : aE xs l with _ | _
 ·have yA := aRA hcb
  clear hcb
  gi_wp2
  refine bodyPost_ret (results_none rfl _ _ _) rfl ?_
  exact aD3 yA.out HJ1.out
 have C1 := aRA hcb
 clear hcb
 gi_wp2
 gi_loopw [11] (fun i wr => ∃ k : Nat, k ≤ no ∧ i = .int .i64 k ∧ Hid (J (jC l k) wr) ∧ Hid (bS wr n₀ ao no l) ∧ Hid (n₀ ≤ wr.heap.size)) (fun i _ => no - (intOf i).toNat)
 case atStart => exact ⟨0, Nat.zero_le _, rfl, HJ1, dL, by show n₀ ≤ _; omega⟩
 case round =>
  obtain ⟨k, hk, rfl, HJs, HOs, HNs⟩ := hrel; clear HJ1 dL P8 c0 c1
  by_cases aK : k < no
  rotate_left
  ·obtain rfl : k = no := by omega
   gi_wp2
   go_end0
   exact aDs C1.out (by rw [HL.out]; exact HJs.out)
  obtain ⟨b, off, rfl, hb, ho⟩ := HOs.out.2 k aK; obtain ⟨c0, c1, c2, c3, c4, c5, c6, c7⟩ := ho; have aNP := aRA (@U3 l k (by rw [HL.out]; exact aK))
  have HNo := aRA (@m8 l k (by rw [HL.out]; exact aK))
  have HMm := aRA (aIy (l := l) (k := k) (by rw [HL.out]; exact aK))
  generalize l.getD k aA.zero = x at aNP HNo HMm c0 c1 c2 c3 c4 c5 c6 c7
  gi_wp2_with fail
  have HX := aRA (bL (Below.refl _ (wr.alloc (.cells #[.int .i64 x.dev, .int .i64 x.seq, .int .i64 x.stamp, .int .i64 x.kind, .string x.item, .int .i64 x.qty, .int .i64 x.level, .int .i64 x.undos] 50)))); have aW : Below wr.heap.size wr (wr.alloc (.cells #[.int .i64 x.dev, .int .i64 x.seq, .int .i64 x.stamp, .int .i64 x.kind, .string x.item, .int .i64 x.qty, .int .i64 x.level, .int .i64 x.undos] 50)) := bl; generalize wr.alloc (.cells #[.int .i64 x.dev, .int .i64 x.seq, .int .i64 x.stamp, .int .i64 x.kind, .string x.item, .int .i64 x.qty, .int .i64 x.level, .int .i64 x.undos] 50) = w2 at HX aW ⊢; refine ⟨trivial, (callsIn_wide.2 (aJF x.dev x.seq x.stamp x.kind x.item x.qty x.level x.undos w2)).mono ?_⟩
  rintro e w3 ⟨rfl, bB⟩; have oV := aRA ((bB.block _ (aRB HX.out).1).trans HX.out); have aI : Below wr.heap.size wr w3 := aW.trans (bB.mono aW.size); have HJ3 := aRA (HJ.out _ _ _ HJs.out (below_grown aI)); have B9 := aRA (HOs.out.below aI HNs.out); have qN : Hid (n₀ ≤ w3.heap.size) := Nat.le_trans HNs.out aI.size; clear aW aI bB HX HJs HOs HNs c0 c1 c2 c3 c4 c5 c6 c7; have ⟨d0, d1, d2, d3, d4, d5, d6, d7⟩ : xC w3 wr.heap.size 0 x := ⟨aRD oV.out, aRD oV.out, aRD oV.out, aRD oV.out, aRD oV.out, aRD oV.out, aRD oV.out, aRD oV.out⟩; simp only [Nat.zero_add] at d0 d1 d2 d3 d4 d5 d6 d7
  have HLv : Hid (x.live = aAx x.dev x.seq x.stamp x.kind x.item x.qty x.level x.undos) := rfl; rcases hlv : aAx x.dev x.seq x.stamp x.kind x.item x.qty x.level x.undos with _ | _
  ·have HE := aRA (HNo.out (HLv.out.trans hlv))
   clear hlv
   gi_wp2
   refine ⟨fun _ h => (by cases h), ?_⟩
   gi_wp2
   go_roundw
   case rel => exact ⟨k + 1, by omega, by go_num, by rw [HE.out]; exact HJ3, B9, qN⟩
   case measure => simp [intOf]; omega
  ·have HE := aRA (aNP.out (HLv.out.trans hlv))
   clear hlv; have T4 := aRA (aBy l k); obtain ⟨fn, tmps, assign, body, hy, hR⟩ := HY.out _ x w3 HJ3.out (by have := T4.out; rw [HL.out]; omega) HMm.out
   unfold aA.val at hy; have HR := aRA hR; clear hR
   gi_wp2
   refine HR.out.mono ?_
   rintro e w4 (⟨rfl, hJ4, hk4⟩ | ⟨rfl, aNB⟩)
   ·have HJ4 := aRA hJ4
    have rZ := aRA (B9.out.below hk4 aRC); have T3 : Hid (n₀ ≤ w4.heap.size) := Nat.le_trans qN.out hk4.size; clear hJ4 hk4
    gi_wp2
    go_roundw
    case rel => exact ⟨k + 1, by omega, by go_num, by rw [HE.out]; exact HJ4, rZ, T3⟩
    case measure => simp [intOf]; omega
   ·have HJx := aRA aNB
    clear aNB
    gi_wp2
    refine bodyPost_ret (results_none rfl _ _ _) rfl ?_
    exact aCr _ HJx.out
end Go.Proofs.YthkagbnpcjidfaaGreatDoor

namespace Go.Proofs.YthkagbnpcjidfaaGreatDoor
set_option maxHeartbeats 10000000
set_option maxRecDepth 100000
open Go.RowKit Go.Shelf
attribute [local go_sem] Oper.semAt_some

/-- The operations that count. -/
def counted (xs : List Int) (l : List aA) : List aA := if aE xs l = true then jC l l.length else []
theorem vR {β : Type} (B : Nat) (t : TypeId) (f : β → Array Value) : Own (fun s W => W.heap[B]? = some (.cells (f s) t (0, 0))) := fun s X Y row hs hg gW =>
 (hg.block B (aRB hs).1 (fun e' => by obtain ⟨o, ho, hc⟩ := gW B e'.symm; rw [hs] at ho; cases ho; cases hc)).trans hs
theorem aBx (n : Nat) (hn : 1 ≤ n) (Bc n₀ : Nat) (av ao : Option Addr) (nv cv no co : Nat) (xs : List Int) (l : List aA) (hv : nv ≤ 1048576) (hc : no ≤ co) (cM : Fits no co)
  (w : World) (hBc : w.heap[Bc]? = some (.cells #[.slice av nv cv, .slice ao no co] 27 (0, 0))) (hx : Ints w n₀ av nv xs) (h : bS w n₀ ao no l) (hn₀ : n₀ ≤ w.heap.size) :
  SeqStopsK Fence.wide n Tryz.prog 122 #[.pointer (some ⟨Bc, 0, none⟩)] (fun x : aA => #[aA.val x]) (Below n₀) (fun ys => ys = counted xs l) (fun _ => True) l.length w := fun lp J Jx W hW hJ _ hY h0 =>
 aD4 n hn lp Bc n₀ av ao nv cv no co xs l hv hc cM J Jx (fun s A B hs hg => hJ s A B none hs hg (fun r e => by cases e)) (fun bR x W hj hl _ => hY bR x W hj hl) W ((hW.block _ (aRB hBc).1).trans hBc) (hx.below hW hn₀) (h.below hW hn₀) (Nat.le_trans hn₀ hW.size) h0

theorem aEb (w : World) (B : Nat) (av ao : Option Addr) (nv cv no co : Nat) (xs : List Int) (l : List aA) (dev : Int) (hx : Ints w B av nv xs) (h : bS w B ao no l) (hB : B ≤ w.heap.size) (hv : nv ≤ 1048576) (hc : no ≤ co) (cM : Fits no co) :
  Calls Tryz.prog 66 #[.agg #[.slice av nv cv, .slice ao no co], .int .i64 dev] w fun e w' => e = .returned (.int .i64 (lastOf dev (counted xs l))) ∧ Below w.heap.size w w' := by
 have J5 : no ≤ 1048576 := cM.1
 have HX := aRA (hx.more hB)
 have HO := aRA (h.more hB)
 clear hx h hB
 refine (callsIn_wide (n := 8)).1 ?_
 refine callsIn_of_wp_marks Tryz.func66 rfl trivial ?_ rfl
 simp only [Tryz.ntmps66, List.size_toArray, List.length_cons, List.length_nil, Nat.reduceAdd, Nat.reduceSub, Array.replicate_succ, Array.replicate_zero, List.push_toArray, List.append_toArray, List.nil_append, List.cons_append]
 gi_wp2_with fail
 refine ⟨trivial, (aCt _ _ _).mono ?_⟩
 rintro e w' ⟨rfl, rfl⟩
 have aI := ((Boxed.new (w.alloc (.cells #[.slice av nv cv, .slice ao no co] 27)) 2 (.int .i64 dev)).alloc (.cells #[.int .i64 0] 2)).alloc (.cells #[.slice av nv cv, .slice ao no co] 27)
 have aN := (Boxed.new ((w.alloc (.cells #[.slice av nv cv, .slice ao no co] 27)).alloc (.cells #[.int .i64 dev] 2)) 2 (.int .i64 0)).alloc (.cells #[.slice av nv cv, .slice ao no co] 27)
 have bB := bL (Below.refl _ ((((w.alloc (.cells #[.slice av nv cv, .slice ao no co] 27)).alloc (.cells #[.int .i64 dev] 2)).alloc (.cells #[.int .i64 0] 2)).alloc (.cells #[.slice av nv cv, .slice ao no co] 27)))
 have O0 : Below w.heap.size w ((((w.alloc (.cells #[.slice av nv cv, .slice ao no co] 27)).alloc (.cells #[.int .i64 dev] 2)).alloc (.cells #[.int .i64 0] 2)).alloc (.cells #[.slice av nv cv, .slice ao no co] 27)) := ((((Below.refl _ w).alloc aRC _).alloc (by simp) _).alloc (by simp; omega) _).alloc (by simp; omega) _
 have dK : ((((w.alloc (.cells #[.slice av nv cv, .slice ao no co] 27)).alloc (.cells #[.int .i64 dev] 2)).alloc (.cells #[.int .i64 0] 2)).alloc (.cells #[.slice av nv cv, .slice ao no co] 27)).heap.size = w.heap.size + 1 + 1 + 1 + 1 := by simp
 simp only [World.size_alloc] at aI aN bB
 gi_wp2
 generalize ((((w.alloc (.cells #[.slice av nv cv, .slice ao no co] 27)).alloc (.cells #[.int .i64 dev] 2)).alloc (.cells #[.int .i64 0] 2)).alloc (.cells #[.slice av nv cv, .slice ao no co] 27)) = W0 at aI aN bB O0 dK ⊢
 refine wpIn_rangeFunc_ownH rfl (by omega) (gf := 122) (lb := #[.pointer (some ⟨w.heap.size + 1 + 1 + 1, 0, none⟩)]) rfl trivial (enters_of Tryz.func122 (by kernel_rfl) rfl)
  (aBx _ (by omega) (w.heap.size + 1 + 1 + 1) w.heap.size av ao nv cv no co xs l hv hc cM W0 bB (HX.out.below O0 aRC) (HO.out.below O0 aRC) (by omega))
  belowK_t (belowK_b (by omega)) (Below.refl _ _) (fun _ => rfl)
  (fun bR W => (Boxed W (w.heap.size + 1) 2 (.int .i64 dev) ∧ Boxed W (w.heap.size + 1 + 1) 2 (.int .i64 (lastOf dev bR))) ∧ Below w.heap.size w W)
  (fun _ _ _ => False)
  (OwnFrom.and (OwnFrom.and (Own.from (boxed_own _ _ _) _) (Own.from (boxed_own _ _ (fun bR => .int .i64 (lastOf dev bR))) _)) (ownFrom_below aRC (by omega)))
  (fun _ _ _ _ _ hs _ _ => hs)
  ⟨⟨aI, aN⟩, O0⟩
  (fun x a' W => ∃ Bx, w.heap.size + 1 + 1 < Bx ∧ W.heap[Bx]? = some (.cells #[.int .i64 x.dev, .int .i64 x.seq, .int .i64 x.stamp, .int .i64 x.kind, .string x.item, .int .i64 x.qty, .int .i64 x.level, .int .i64 x.undos] 50 (0, 0)) ∧ a' = { tmps := #[.agg #[.slice av nv cv, .slice ao no co], .int .i64 dev, .pointer (some ⟨w.heap.size, 0, none⟩), .pointer (some ⟨w.heap.size + 1, 0, none⟩), .int .i64 0, .pointer (some ⟨w.heap.size + 1 + 1, 0, none⟩), .pointer (some ⟨Bx, 0, none⟩), .agg #[.slice av nv cv, .slice ao no co], .func (.func 122) #[] #[.pointer (some ⟨w.heap.size + 1 + 1 + 1, 0, none⟩)], aA.val x, undef, undef, undef, undef, undef, undef, undef, undef, undef], defers := [] })
  (fun x a' s A B row hs hg hr => by
   obtain ⟨Bx, h1, h2, h3⟩ := hs; exact ⟨Bx, h1, (vR (β := Unit) Bx _ (fun _ => _)).from _ () A B row h2 hg hr, h3⟩) ?assign ?body ?done ?stop
 case assign =>
  rintro lp bR x W K ⟨⟨h1, h2⟩, h3⟩ hK; unfold aA.val
  gi_wp2
  exact hK _ _ ((KeepsOthers.alloc _ _).from _) ((Below.refl _ W).alloc h3.size _) ⟨⟨h1.alloc _, h2.alloc _⟩, h3.alloc h3.size _⟩ ⟨W.heap.size, h2.lt, World.alloc_heap_new W _, rfl⟩
 case body =>
  rintro lp bR x a' W hl ⟨r, hr⟩ ⟨⟨h1, h2⟩, h3⟩ ⟨Bx, hBx, hX, rfl⟩ pE; have d0 := cell_of_row W Bx 0 _ _ _ hX; have d1 := cell_of_row W Bx 1 _ _ _ hX; simp only [List.getElem?_toArray, List.getElem?_cons_zero, List.getElem?_cons_succ] at d0 d1
  have g1 := h1.cell; have g2 := h2.cell; have g3 := h2.frozen; have H1 := aRA h1; have H2 := aRA h2; have H3 := aRA h3; have HS := aRA (aAP dev bR x); clear h1 h2 h3 hX hr
  by_cases hd : x.dev = dev
  ·have hb : (x.dev == dev) = true := by rw [hd]; exact beq_self_eq_true _
   have HE : Hid (lastOf dev (bR ++ [x]) = max (lastOf dev bR) x.seq) := by show _ = _; rw [HS.out, if_pos hd]
   clear hd HS
   gi_wp2
   exact ⟨(KeepsOthers.setCell _ _ _).from _, (Below.refl _ W).setCell (p := ⟨w.heap.size + 1 + 1, 0, none⟩) (by show _ ≤ w.heap.size + 1 + 1; omega) _, ⟨H1.out.other (by omega) _, by rw [HE.out]; exact H2.out.set _⟩, H3.out.setCell (p := ⟨w.heap.size + 1 + 1, 0, none⟩) (by show _ ≤ w.heap.size + 1 + 1; omega) _⟩
  ·have hb : (x.dev == dev) = false := by rw [beq_eq_false_iff_ne]; exact hd
   have HE : Hid (lastOf dev (bR ++ [x]) = lastOf dev bR) := by show _ = _; rw [HS.out, if_neg hd]
   clear hd HS
   gi_wp2
   exact ⟨KeepsFrom.refl _ _, Below.refl _ _, ⟨H1.out, by rw [HE.out]; exact H2.out⟩, H3.out⟩
 case done =>
  rintro D ys W hD rfl ⟨⟨h1, h2⟩, h3⟩ hK; have g2 := h2.cell
  gi_wp2
  refine ⟨by simp, .inl ⟨_, _, rfl, run_takeDeferred hK, ?_⟩⟩
  exact ⟨_, results_tmp rfl _ _ _, rfl, h3.trans (belowK_b (w := w) aRC W D _ _ (by omega) hK rfl rfl)⟩
 case stop =>
  rintro D c bR W _ _ h _; exact h.elim
end Go.Proofs.YthkagbnpcjidfaaGreatDoor

namespace Go.Proofs.YthkagbnpcjidfaaGreatDoor
set_option maxHeartbeats 10000000
set_option maxRecDepth 100000
open Go.RowKit
set_option linter.unusedVariables false
set_option linter.unusedSimpArgs false

theorem aIa (w : World) (B : Nat) (av ao : Option Addr) (nv cv no co : Nat) (xs : List Int) (l : List aA) (dev : Int) (h : bS w B ao no l) (hB : B ≤ w.heap.size) (hn : no ≤ 1048576) (hc : aE xs l = true) : Calls Tryz.prog 87 #[.agg #[.slice av nv cv, .slice ao no co], .int .i64 dev] w fun e w' => e = .returned (.int .i64 (cY dev l l.length)) ∧ Below w.heap.size w w' := by
 have aW : Below w.heap.size w (w.alloc (.cells #[.slice av nv cv, .slice ao no co] 27)) := (Below.refl _ w).alloc aRC _
 have HO := aRA (h.below aW hB)
 have HB := aRA aW
 have HX := aRA (bL (Below.refl _ (w.alloc (.cells #[.slice av nv cv, .slice ao no co] 27))))
 have HL := aRA h.1
 have dK : w.heap.size < (w.alloc (.cells #[.slice av nv cv, .slice ao no co] 27)).heap.size := by show _ < (w.heap.push _).size; simp
 have HC : Hid (∀ k, k < no → 0 ≤ (l.getD k aA.zero).undos) := fun k hk => by
  obtain ⟨_, _, _, _, _, hok, _, _⟩ := gX hc (i := k) (by rw [h.1]; exact hk)
  exact (T6 hok).1
 clear h aW hc
 go_enter Tryz.func87, Tryz.ntmps87
 go_wp2_with fail
 generalize w.alloc (.cells #[.slice av nv cv, .slice ao no co] 27) = w0 at HO HB HX dK ⊢
 go_wp2
 go_loopw [5, 6] (fun n i wr => ∃ k : Nat, k ≤ no ∧ i = .int .i64 k ∧ n = .int .i64 (cY dev l k) ∧ Hid (Below w0.heap.size w0 wr)) (fun _ i _ => no - (intOf i).toNat)
 case atStart => exact ⟨0, Nat.zero_le _, rfl, rfl, Below.refl _ _⟩
 case round =>
  obtain ⟨k, hk, rfl, rfl, cR⟩ := hrel; obtain ⟨c0, c1⟩ := pair_cells ((cR.out.block _ dK).trans HX.out)
  by_cases aK : k < no
  rotate_left
  ·obtain rfl : k = no := by omega
   go_wp2
   go_ret
   exact ⟨by rw [HL.out]; rfl, HB.out.trans (cR.out.mono HB.out.size)⟩
  obtain ⟨b, off, rfl, hb, ho⟩ := HO.out.2 k aK; obtain ⟨d0, d1, d2, d3, d4, d5, d6, d7⟩ := ho.kept (cR.out.block b (by omega))
  have X9 := HC.out k aK; have HU : Hid (cY dev l (k + 1) = if (l.getD k aA.zero).dev = dev ∧ (l.getD k aA.zero).undos % 2 = 0 then (l.getD k aA.zero).seq else cY dev l k) := rfl; have dL := aRA ho; clear ho; generalize l.getD k aA.zero = x at HU X9 d0 d1 d2 d3 d4 d5 d6 d7 dL
  by_cases hd : x.dev = dev
  rotate_left
  ·have hbq : (x.dev == dev) = false := by rw [beq_eq_false_iff_ne]; exact hd
   have HE : Hid (cY dev l (k + 1) = cY dev l k) := by show _ = _; rw [HU.out, if_neg (fun h => hd h.1)]
   clear hd HU; go_wp2
   go_roundw
   case rel => exact ⟨k + 1, by omega, by go_num, by rw [HE.out], cR⟩
   case measure => simp [intOf]; omega
  have hbq : (x.dev == dev) = true := by rw [hd]; exact beq_self_eq_true _
  have HD := aRA hd; clear hd
  go_wp2_with fail
  refine (aEd x.dev x.seq x.stamp x.kind x.item x.qty x.level x.undos _ X9).mono ?_
  rintro e w2 ⟨rfl, aN⟩; have bK := aRA (cR.out.trans (aN.mono cR.out.size)); clear aN c0 c1 d0 d1 d2 d3 d4 d5 d6 d7; obtain ⟨c0, c1⟩ := pair_cells ((bK.out.block _ dK).trans HX.out); obtain ⟨d0, d1, d2, d3, d4, d5, d6, d7⟩ := dL.out.kept (bK.out.block b (by omega))
  by_cases hu : x.undos % 2 = 0
  ·have hq : decide (x.undos % 2 = 0) = true := decide_eq_true hu
   have HE : Hid (cY dev l (k + 1) = x.seq) := by show _ = _; rw [HU.out, if_pos ⟨HD.out, hu⟩]
   rw [hq]; clear hu hq HU; go_wp2
   go_roundw
   case rel => exact ⟨k + 1, by omega, by go_num, by rw [HE.out], bK⟩
   case measure => simp [intOf]; omega
  ·have hq : decide (x.undos % 2 = 0) = false := decide_eq_false hu
   have HE : Hid (cY dev l (k + 1) = cY dev l k) := by show _ = _; rw [HU.out, if_neg (fun h => hu h.2)]
   rw [hq]; clear hu hq HU; go_wp2
   go_roundw
   case rel => exact ⟨k + 1, by omega, by go_num, by rw [HE.out], bK⟩
   case measure => simp [intOf]; omega

/-- What looking for a device's operation by its number answers. -/
def aOG (l : List aA) (dev seq : Int) (w : World) (e : Ending) (w' : World) : Prop :=
 w = w' ∧ ((∃ i : Nat, i < l.length ∧ (aC l i).dev = dev ∧ (aC l i).seq = seq ∧ e = .returned (.int .i64 (i : Int))) ∨ ((∀ i, i < l.length → ¬ ((aC l i).dev = dev ∧ (aC l i).seq = seq)) ∧ e = .returned (.int .i64 (-1))))
theorem aKR (w : World) (B : Nat) (ao : Option Addr) (no co : Nat) (l : List aA) (dev seq : Int) (h : bS w B ao no l) (hn : no ≤ 1048576) : Calls Tryz.prog 118 #[.slice ao no co, .int .i64 dev, .int .i64 seq] w (aOG l dev seq w) := by
 have HO := aRA h
 have HL := aRA h.1
 clear h
 go_enter Tryz.func118, Tryz.ntmps118
 go_wp2
 go_loop [7] (fun i => ∃ k : Nat, k ≤ no ∧ i = .int .i64 k ∧ Hid (∀ j, j < k → ¬ ((aC l j).dev = dev ∧ (aC l j).seq = seq))) (fun i => no - (intOf i).toNat)
 case atStart => exact ⟨0, Nat.zero_le _, rfl, fun j hj => by omega⟩
 case round =>
  obtain ⟨k, hk, rfl, HN⟩ := hrel
  by_cases aK : k < no
  rotate_left
  ·obtain rfl : k = no := by omega
   go_wp2
   go_ret
   exact ⟨rfl, .inr ⟨by rw [HL.out]; exact HN.out, rfl⟩⟩
  obtain ⟨b, off, rfl, hb, ho⟩ := HO.out.2 k aK; obtain ⟨d0, d1, _⟩ := ho; have HA : Hid (l.getD k aA.zero = aC l k) := rfl; rw [HA.out] at d0 d1
  by_cases hd : (aC l k).dev = dev ∧ (aC l k).seq = seq
  ·have HD := aRA hd
   have b1 : ((aC l k).dev == dev) = true := by rw [hd.1]; exact beq_self_eq_true _
   have b2 : ((aC l k).seq == seq) = true := by rw [hd.2]; exact beq_self_eq_true _
   clear hd; generalize hx : aC l k = x at b1 b2 d0 d1; have HXe := aRA hx; clear hx; go_wp2
   go_ret
   exact ⟨rfl, .inl ⟨k, by rw [HL.out]; exact aK, HD.out.1, HD.out.2, rfl⟩⟩
  ·have oC : Hid (∀ j, j < k + 1 → ¬ ((aC l j).dev = dev ∧ (aC l j).seq = seq)) := fun j hj => by
    rcases Nat.lt_or_ge j k with h1 | h1
    ·exact HN.out j h1
    ·obtain rfl : j = k := by omega
     exact hd
   by_cases h1 : (aC l k).dev = dev
   ·have h2 : ¬ (aC l k).seq = seq := fun h => hd ⟨h1, h⟩
    have b1 : ((aC l k).dev == dev) = true := by rw [h1]; exact beq_self_eq_true _
    have b2 : ((aC l k).seq == seq) = false := by rw [beq_eq_false_iff_ne]; exact h2
    clear hd h1 h2; generalize aC l k = x at b1 b2 d0 d1; go_wp2
    go_round
    case rel => exact ⟨k + 1, by omega, by go_num, oC⟩
    case measure => simp [intOf]; omega
   ·have b1 : ((aC l k).dev == dev) = false := by rw [beq_eq_false_iff_ne]; exact h1
    clear hd h1; generalize aC l k = x at b1 d0 d1; go_wp2
    go_round
    case rel => exact ⟨k + 1, by omega, by go_num, oC⟩
    case measure => simp [intOf]; omega

/-- The number behind a device's last live operation, 0 where there is no such operation. -/
def rJ (xs : List Int) (d : Nat) (l : List aA) : Int := if cY (d : Int) l l.length + 1 ≤ xs.getD d 0 then cY (d : Int) l l.length + 1 else 0
theorem aM0 (w : World) (B : Nat) (av ao : Option Addr) (nv cv no co : Nat) (xs : List Int) (l : List aA) (d : Nat) (hd : d < 4) (h : bS w B ao no l) (hB : B ≤ w.heap.size) (hn : no ≤ 1048576) (hc : aE xs l = true) : Calls Tryz.prog 88 #[.agg #[.slice av nv cv, .slice ao no co], .int .i64 (d : Int)] w fun e w' => e = .returned (.int .i64 (rJ xs d l)) ∧ Below w.heap.size w w' := by
 have aW : Below w.heap.size w (w.alloc (.cells #[.slice av nv cv, .slice ao no co] 27)) := (Below.refl _ w).alloc aRC _
 have HO := aRA (h.below aW hB)
 have HB := aRA aW
 have HX := aRA (bL (Below.refl _ (w.alloc (.cells #[.slice av nv cv, .slice ao no co] 27))))
 have HL := aRA h.1
 have dK : w.heap.size < (w.alloc (.cells #[.slice av nv cv, .slice ao no co] 27)).heap.size := by show _ < (w.heap.push _).size; simp
 have HC := aRA hc
 have HR := aRA (aFx hc d l.length aRC)
 have HH := aRA (fun (n : Int) hn => aIO hc hd (n := n) hn)
 have dI := HR.out.1
 have eK := HR.out.2
 have HRe : Hid (rJ xs d l = if cY (d : Int) l l.length + 1 ≤ xs.getD d 0 then cY (d : Int) l l.length + 1 else 0) := rfl
 clear h aW hc
 obtain ⟨c0, c1⟩ := pair_cells HX.out
 go_enter Tryz.func88, Tryz.ntmps88
 go_wp2_with fail
 generalize w.alloc (.cells #[.slice av nv cv, .slice ao no co] 27) = w0 at HO HB HX dK c0 c1 ⊢
 refine (aIa w0 B av ao nv cv no co xs l (d : Int) HO.out (by omega) hn HC.out).mono ?_
 rintro e w2 ⟨rfl, aN⟩
 have sW := aRA ((aN.block _ dK).trans HX.out)
 have iZ := aRA (HO.out.below aN (by omega))
 have bK := aRA (HB.out.trans (aN.mono HB.out.size))
 clear aN c0 c1 HX HO HB
 obtain ⟨c0, c1⟩ := pair_cells sW.out
 generalize cY (d : Int) l l.length = u at dI eK HRe ⊢
 go_wp2_with fail
 refine (aKR w2 B ao no co l (d : Int) (u + 1) iZ.out hn).mono ?_
 rintro e w' ⟨rfl, ⟨i, hi, h1, h2, rfl⟩ | ⟨hM, rfl⟩⟩
 ·have HE : Hid (rJ xs d l = u + 1) := by show _ = _; rw [HRe.out, if_pos ((HH.out (u + 1) (by omega)).2 ⟨i, hi, h1, h2⟩)]
  clear hi h1 h2; have aK : decide ((i : Int) < 0) = false := decide_eq_false (by omega)
  go_wp2
  go_ret
  exact ⟨by rw [HE.out]; rfl, bK.out⟩
 ·have HE : Hid (rJ xs d l = 0) := by
   show _ = _
   rw [HRe.out, if_neg (fun h => by
    obtain ⟨i, hi, h1, h2⟩ := (HH.out (u + 1) (by omega)).1 h
    exact hM i hi ⟨h1, h2⟩)]
  clear hM; go_wp2
  go_ret
  exact ⟨by rw [HE.out]; rfl, bK.out⟩

def cW.cells (s : cW) : Array Value := #[.int .i64 s.level, .int .i64 s.counted.dev, .int .i64 s.counted.seq, .int .i64 s.counted.stamp, .int .i64 s.counted.kind, .string s.counted.item, .int .i64 s.counted.qty, .int .i64 s.counted.level, .int .i64 s.counted.undos, .int .i64 s.placed.dev, .int .i64 s.placed.seq, .int .i64 s.placed.stamp, .int .i64 s.placed.kind, .string s.placed.item, .int .i64 s.placed.qty, .int .i64 s.placed.level, .int .i64 s.placed.undos]
def cW.val (s : cW) : Value := .agg s.cells
theorem mV {w : World} {b : Nat} {cs : Array Value} {T : TypeId} (h : w.heap[b]? = some (.cells cs T (0, 0))) : w.frozen? ⟨b, 0, none⟩ = false ∧ w.frozen? ⟨b, 1, none⟩ = false ∧ w.frozen? ⟨b, 2, none⟩ = false ∧ w.frozen? ⟨b, 3, none⟩ = false ∧ w.frozen? ⟨b, 4, none⟩ = false ∧ w.frozen? ⟨b, 5, none⟩ = false ∧ w.frozen? ⟨b, 6, none⟩ = false ∧ w.frozen? ⟨b, 7, none⟩ = false ∧ w.frozen? ⟨b, 8, none⟩ = false ∧ w.frozen? ⟨b, 9, none⟩ = false ∧ w.frozen? ⟨b, 10, none⟩ = false ∧ w.frozen? ⟨b, 11, none⟩ = false ∧ w.frozen? ⟨b, 12, none⟩ = false ∧ w.frozen? ⟨b, 13, none⟩ = false ∧ w.frozen? ⟨b, 14, none⟩ = false ∧ w.frozen? ⟨b, 15, none⟩ = false ∧ w.frozen? ⟨b, 16, none⟩ = false :=
 ⟨aRE h, aRE h, aRE h, aRE h, aRE h, aRE h, aRE h, aRE h, aRE h, aRE h, aRE h, aRE h, aRE h, aRE h, aRE h, aRE h, aRE h⟩
/-- Three blocks that a call has laid first: two arguments and a result. -/
structure mH (w w1 : World) (x y z : Array Value) (S T U : TypeId) : Prop where
 fst : w1.heap[w.heap.size]? = some (.cells x S (0, 0))
 snd : w1.heap[w.heap.size + 1]? = some (.cells y T (0, 0))
 res : w1.heap[w.heap.size + 1 + 1]? = some (.cells z U (0, 0))
 bel : Below w.heap.size w w1
theorem mH.mk0 (w : World) (x y z : Array Value) (S T U : TypeId) : mH w (((w.alloc (.cells x S)).alloc (.cells y T)).alloc (.cells z U)) x y z S T U := by
 have e1 : (w.alloc (.cells x S)).heap.size = w.heap.size + 1 := by simp
 have e2 : ((w.alloc (.cells x S)).alloc (.cells y T)).heap.size = w.heap.size + 1 + 1 := by simp
 refine ⟨?_, ?_, ?_, (((Below.refl _ w).alloc aRC _).alloc (by simp) _).alloc (by simp; omega) _⟩
 ·rw [Below.heap_alloc _ _ _ (by omega), Below.heap_alloc _ _ _ (by omega)]
  exact World.alloc_heap_new w _
 ·rw [Below.heap_alloc _ _ _ (by omega), ← e1]
  exact World.alloc_heap_new _ _
 ·rw [← e2]
  exact World.alloc_heap_new _ _
theorem mH.next {w w1 w2 : World} {x y z : Array Value} {S T U : TypeId} (h : mH w w1 x y z S T U) (hb : Below w1.heap.size w1 w2) : mH w w2 x y z S T U :=
 ⟨(hb.block _ (aRB h.fst).1).trans h.fst, (hb.block _ (aRB h.snd).1).trans h.snd, (hb.block _ (aRB h.res).1).trans h.res, h.bel.trans (hb.mono h.bel.size)⟩

theorem o8 (a b : aA) (w : World) : Calls Tryz.prog 123 #[a.val, b.val] w fun e w' => e = .returned (kH a b).val ∧ Below w.heap.size w w' := by
 have H := aRA (mH.mk0 w #[.int .i64 a.dev, .int .i64 a.seq, .int .i64 a.stamp, .int .i64 a.kind, .string a.item, .int .i64 a.qty, .int .i64 a.level, .int .i64 a.undos] #[.int .i64 b.dev, .int .i64 b.seq, .int .i64 b.stamp, .int .i64 b.kind, .string b.item, .int .i64 b.qty, .int .i64 b.level, .int .i64 b.undos] #[.int .i64 0, .int .i64 0, .int .i64 0, .int .i64 0, .string ⟨#[]⟩, .int .i64 0, .int .i64 0, .int .i64 0] 50 50 50)
 show Calls Tryz.prog 123 #[.agg #[.int .i64 a.dev, .int .i64 a.seq, .int .i64 a.stamp, .int .i64 a.kind, .string a.item, .int .i64 a.qty, .int .i64 a.level, .int .i64 a.undos], .agg #[.int .i64 b.dev, .int .i64 b.seq, .int .i64 b.stamp, .int .i64 b.kind, .string b.item, .int .i64 b.qty, .int .i64 b.level, .int .i64 b.undos]] w _
 rcases hbf : aBh b a with _ | _
 ·have HE : Hid (kH a b = b) := by show _ = _; unfold kH; rw [hbf]; rfl
  have HQ := aRA hbf; clear hbf
  go_enter Tryz.func123, Tryz.ntmps123
  go_wp2_with fail
  generalize ((w.alloc (.cells #[.int .i64 a.dev, .int .i64 a.seq, .int .i64 a.stamp, .int .i64 a.kind, .string a.item, .int .i64 a.qty, .int .i64 a.level, .int .i64 a.undos] 50)).alloc (.cells #[.int .i64 b.dev, .int .i64 b.seq, .int .i64 b.stamp, .int .i64 b.kind, .string b.item, .int .i64 b.qty, .int .i64 b.level, .int .i64 b.undos] 50)).alloc (.cells #[.int .i64 0, .int .i64 0, .int .i64 0, .int .i64 0, .string ⟨#[]⟩, .int .i64 0, .int .i64 0, .int .i64 0] 50) = w0 at H ⊢; refine (aBH b.dev b.seq b.stamp b.kind b.item b.qty b.level b.undos a.dev a.seq a.stamp a.kind a.item a.qty a.level a.undos w0).mono ?_
  rintro e w1 ⟨rfl, hb⟩; have H1 := aRA (H.out.next hb); clear hb H; have HQ2 : Hid (V8 b.dev b.seq b.stamp b.kind b.item b.qty b.level b.undos a.dev a.seq a.stamp a.kind a.item a.qty a.level a.undos = false) := HQ.out; rw [HQ2.out]; obtain ⟨c0, c1, c2, c3, c4, c5, c6, c7⟩ := aQ H1.out.snd; obtain ⟨e0, e1, e2, e3, e4, e5, e6, e7⟩ := aQ H1.out.res; obtain ⟨f0, f1, f2, f3, f4, f5, f6, f7⟩ := dE H1.out.res; go_wp2
  have HX := aRA (kW (.int .i64 b.dev) (.int .i64 b.seq) (.int .i64 b.stamp) (.int .i64 b.kind) (.string b.item) (.int .i64 b.qty) (.int .i64 b.level) (.int .i64 b.undos) H1.out.res); have HB := aRA (jJ (.int .i64 b.dev) (.int .i64 b.seq) (.int .i64 b.stamp) (.int .i64 b.kind) (.string b.item) (.int .i64 b.qty) (.int .i64 b.level) (.int .i64 b.undos) H1.out.bel (by show _ ≤ w.heap.size + 1 + 1; omega))
  clear c0 c1 c2 c3 c4 c5 c6 c7 e0 e1 e2 e3 e4 e5 e6 e7 f0 f1 f2 f3 f4 f5 f6 f7
  change bodyPost _ _ _ _ _ (bT w1 (w.heap.size + 1 + 1) (.int .i64 b.dev) (.int .i64 b.seq) (.int .i64 b.stamp) (.int .i64 b.kind) (.string b.item) (.int .i64 b.qty) (.int .i64 b.level) (.int .i64 b.undos))
  generalize bT w1 (w.heap.size + 1 + 1) (.int .i64 b.dev) (.int .i64 b.seq) (.int .i64 b.stamp) (.int .i64 b.kind) (.string b.item) (.int .i64 b.qty) (.int .i64 b.level) (.int .i64 b.undos) = wf at HX HB ⊢; obtain ⟨d0, d1, d2, d3, d4, d5, d6, d7⟩ := aQ HX.out; exact bodyPost_ret (v := .agg #[.int .i64 b.dev, .int .i64 b.seq, .int .i64 b.stamp, .int .i64 b.kind, .string b.item, .int .i64 b.qty, .int .i64 b.level, .int .i64 b.undos]) (by simp [results, Tryz.results123, go_sem, d0, d1, d2, d3, d4, d5, d6, d7]) rfl ⟨by rw [HE.out]; rfl, HB.out⟩
 ·have HE : Hid (kH a b = a) := by show _ = _; unfold kH; rw [hbf]; rfl
  have HQ := aRA hbf; clear hbf
  go_enter Tryz.func123, Tryz.ntmps123
  go_wp2_with fail
  generalize ((w.alloc (.cells #[.int .i64 a.dev, .int .i64 a.seq, .int .i64 a.stamp, .int .i64 a.kind, .string a.item, .int .i64 a.qty, .int .i64 a.level, .int .i64 a.undos] 50)).alloc (.cells #[.int .i64 b.dev, .int .i64 b.seq, .int .i64 b.stamp, .int .i64 b.kind, .string b.item, .int .i64 b.qty, .int .i64 b.level, .int .i64 b.undos] 50)).alloc (.cells #[.int .i64 0, .int .i64 0, .int .i64 0, .int .i64 0, .string ⟨#[]⟩, .int .i64 0, .int .i64 0, .int .i64 0] 50) = w0 at H ⊢; refine (aBH b.dev b.seq b.stamp b.kind b.item b.qty b.level b.undos a.dev a.seq a.stamp a.kind a.item a.qty a.level a.undos w0).mono ?_
  rintro e w1 ⟨rfl, hb⟩; have H1 := aRA (H.out.next hb); clear hb H; have HQ2 : Hid (V8 b.dev b.seq b.stamp b.kind b.item b.qty b.level b.undos a.dev a.seq a.stamp a.kind a.item a.qty a.level a.undos = true) := HQ.out; rw [HQ2.out]; obtain ⟨c0, c1, c2, c3, c4, c5, c6, c7⟩ := aQ H1.out.fst; obtain ⟨e0, e1, e2, e3, e4, e5, e6, e7⟩ := aQ H1.out.res; obtain ⟨f0, f1, f2, f3, f4, f5, f6, f7⟩ := dE H1.out.res; go_wp2
  have HX := aRA (kW (.int .i64 a.dev) (.int .i64 a.seq) (.int .i64 a.stamp) (.int .i64 a.kind) (.string a.item) (.int .i64 a.qty) (.int .i64 a.level) (.int .i64 a.undos) H1.out.res); have HB := aRA (jJ (.int .i64 a.dev) (.int .i64 a.seq) (.int .i64 a.stamp) (.int .i64 a.kind) (.string a.item) (.int .i64 a.qty) (.int .i64 a.level) (.int .i64 a.undos) H1.out.bel (by show _ ≤ w.heap.size + 1 + 1; omega))
  clear c0 c1 c2 c3 c4 c5 c6 c7 e0 e1 e2 e3 e4 e5 e6 e7 f0 f1 f2 f3 f4 f5 f6 f7
  change bodyPost _ _ _ _ _ (bT w1 (w.heap.size + 1 + 1) (.int .i64 a.dev) (.int .i64 a.seq) (.int .i64 a.stamp) (.int .i64 a.kind) (.string a.item) (.int .i64 a.qty) (.int .i64 a.level) (.int .i64 a.undos))
  generalize bT w1 (w.heap.size + 1 + 1) (.int .i64 a.dev) (.int .i64 a.seq) (.int .i64 a.stamp) (.int .i64 a.kind) (.string a.item) (.int .i64 a.qty) (.int .i64 a.level) (.int .i64 a.undos) = wf at HX HB ⊢; obtain ⟨d0, d1, d2, d3, d4, d5, d6, d7⟩ := aQ HX.out; exact bodyPost_ret (v := .agg #[.int .i64 a.dev, .int .i64 a.seq, .int .i64 a.stamp, .int .i64 a.kind, .string a.item, .int .i64 a.qty, .int .i64 a.level, .int .i64 a.undos]) (by simp [results, Tryz.results123, go_sem, d0, d1, d2, d3, d4, d5, d6, d7]) rfl ⟨by rw [HE.out]; rfl, HB.out⟩
def E5 (xs : List Int) (l : List aA) (dev : Int) : Int := if aE xs l = true ∧ dD dev 0 3 = true then cY dev l l.length else 0
def rS (xs : List Int) (l : List aA) (dev : Int) : Int := if aE xs l = true ∧ dD dev 0 3 = true then rJ xs dev.toNat l else 0
theorem aC8 (xs : List Int) (l : List aA) (dev : Int) : lastOf dev (counted xs l) = E5 xs l dev := by
 unfold counted E5
 by_cases hc : aE xs l = true
 ·rw [if_pos hc, aCQ hc dev _ aRC]
  by_cases hd : dD dev 0 3 = true
  ·rw [if_pos ⟨hc, hd⟩]
  ·rw [if_neg (fun h => hd h.2), aAK hc (fun h => hd (gM.2 h)) _ aRC]
 ·rw [if_neg hc, if_neg (fun h => hc h.1)]
  rfl
theorem aPj {xs : List Int} {l : List aA} {dev : Int} (h : aE xs l = false ∨ dD dev 0 3 = false) : E5 xs l dev = 0 := by
 unfold E5
 rw [if_neg (fun k => by rcases h with h | h <;> simp [h] at k)]
theorem aDU {xs : List Int} {l : List aA} {dev : Int} (h : aE xs l = false ∨ dD dev 0 3 = false) : rS xs l dev = 0 := by
 unfold rS
 rw [if_neg (fun k => by rcases h with h | h <;> simp [h] at k)]
/-- A target's number; whether there is one. -/
def T0 (n : Int) (w : World) (e : Ending) (w' : World) : Prop := e = .returned (.tuple #[.int .i64 n, .bool (decide (0 < n))]) ∧ Below w.heap.size w w'
theorem aDL {n : Int} {w w' : World} (h : n = 0) (hb : Below w.heap.size w w') : T0 n w (.returned (.tuple #[.int .i64 0, .bool false])) w' := ⟨by rw [h]; rfl, hb⟩
theorem aLv {n m : Int} {w w' : World} (h : n = m) (h0 : 0 < m) (hb : Below w.heap.size w w') : T0 n w (.returned (.tuple #[.int .i64 m, .bool true])) w' := ⟨by rw [h, decide_eq_true h0], hb⟩
theorem A9 (dev : Int) (w : World) : Calls Tryz.prog 53 #[.int .i64 dev] w fun e w' => e = .returned (.bool (dD dev 0 3)) ∧ w = w' := by
 go_enter Tryz.func53, Tryz.ntmps53
 go_wp2_with fail
 refine (cQ _ _ _ _).mono ?_
 rintro e w' ⟨rfl, rfl⟩
 go_wp2
 go_ret
 exact ⟨rfl, rfl⟩

theorem aJE (w : World) (B : Nat) (av ao : Option Addr) (nv cv no co : Nat) (xs : List Int) (l : List aA) (dev : Int) (hx : Ints w B av nv xs) (h : bS w B ao no l) (hB : B ≤ w.heap.size) (hv : nv ≤ 1048576) (hc : no ≤ co) (cM : Fits no co) : Calls Tryz.prog 34 #[.agg #[.slice av nv cv, .slice ao no co], .int .i64 dev] w (T0 (E5 xs l dev) w) := by
 have J5 : no ≤ 1048576 := cM.1
 have aW : Below w.heap.size w (w.alloc (.cells #[.slice av nv cv, .slice ao no co] 27)) := (Below.refl _ w).alloc aRC _
 have HV := aRA (hx.below aW hB)
 have HO := aRA (h.below aW hB)
 have HB := aRA aW
 have HX := aRA (bL (Below.refl _ (w.alloc (.cells #[.slice av nv cv, .slice ao no co] 27))))
 have dK : w.heap.size < (w.alloc (.cells #[.slice av nv cv, .slice ao no co] 27)).heap.size := by show _ < (w.heap.push _).size; simp
 clear hx h aW
 obtain ⟨c0, c1⟩ := pair_cells HX.out
 go_enter Tryz.func34, Tryz.ntmps34
 go_wp2_with fail
 generalize w.alloc (.cells #[.slice av nv cv, .slice ao no co] 27) = w0 at HV HO HB HX dK c0 c1 ⊢
 refine (aEb w0 B av ao nv cv no co xs l dev HV.out HO.out (by omega) hv hc cM).mono ?_
 rintro e w1 ⟨rfl, hb⟩
 rw [aC8]
 have B2 := aRA ((hb.block _ (aRB HX.out).1).trans HX.out)
 have lP := aRA (HV.out.below hb (by omega))
 have dL := aRA (HO.out.below hb (by omega))
 have cO := aRA (HB.out.trans (hb.mono HB.out.size))
 have fH := hb.size
 clear hb c0 c1 HX HV HO HB
 obtain ⟨c0, c1⟩ := pair_cells B2.out
 go_wp2
 go_ret2
 exact ⟨rfl, cO.out⟩
theorem aEp (w : World) (B : Nat) (av ao : Option Addr) (nv cv no co : Nat) (xs : List Int) (l : List aA) (dev : Int) (hx : Ints w B av nv xs) (h : bS w B ao no l) (hB : B ≤ w.heap.size) (hv : nv ≤ 1048576) (hc : no ≤ co) (cM : Fits no co) : Calls Tryz.prog 28 #[.agg #[.slice av nv cv, .slice ao no co], .int .i64 dev] w (T0 (rS xs l dev) w) := by
 have J5 : no ≤ 1048576 := cM.1
 have aW : Below w.heap.size w (w.alloc (.cells #[.slice av nv cv, .slice ao no co] 27)) := (Below.refl _ w).alloc aRC _
 have HV := aRA (hx.below aW hB)
 have HO := aRA (h.below aW hB)
 have HB := aRA aW
 have HX := aRA (bL (Below.refl _ (w.alloc (.cells #[.slice av nv cv, .slice ao no co] 27))))
 have dK : w.heap.size < (w.alloc (.cells #[.slice av nv cv, .slice ao no co] 27)).heap.size := by show _ < (w.heap.push _).size; simp
 clear hx h aW
 obtain ⟨c0, c1⟩ := pair_cells HX.out
 rcases hcb : aE xs l with _ | _
 ·have HN := aRA (aDU (dev := dev) (.inl hcb))
  have HC := aRA hcb; clear hcb
  go_enter Tryz.func28, Tryz.ntmps28
  go_wp2_with fail
  generalize w.alloc (.cells #[.slice av nv cv, .slice ao no co] 27) = w0 at HV HO HB HX dK c0 c1 ⊢; refine (tD w0 B av ao nv cv no co xs l HV.out HO.out (by omega) hv hc cM).mono ?_
  rintro e w1 ⟨rfl, hb⟩; rw [HC.out]; have B2 := aRA ((hb.block _ (aRB HX.out).1).trans HX.out); have lP := aRA (HV.out.below hb (by omega))
  have dL := aRA (HO.out.below hb (by omega))
  have cO := aRA (HB.out.trans (hb.mono HB.out.size)); have fH := hb.size; clear hb c0 c1 HX HV HO HB; obtain ⟨c0, c1⟩ := pair_cells B2.out; go_wp2
  go_ret2
  exact aDL HN.out cO.out
 have HC := aRA hcb
 rcases hd : dD dev 0 3 with _ | _
 ·have HN := aRA (aDU (xs := xs) (l := l) (.inr hd))
  have HD := aRA hd; clear hcb hd
  go_enter Tryz.func28, Tryz.ntmps28
  go_wp2_with fail
  generalize w.alloc (.cells #[.slice av nv cv, .slice ao no co] 27) = w0 at HV HO HB HX dK c0 c1 ⊢; refine (tD w0 B av ao nv cv no co xs l HV.out HO.out (by omega) hv hc cM).mono ?_
  rintro e w1 ⟨rfl, hb⟩; rw [HC.out]; have B2 := aRA ((hb.block _ (aRB HX.out).1).trans HX.out); have lP := aRA (HV.out.below hb (by omega))
  have dL := aRA (HO.out.below hb (by omega))
  have cO := aRA (HB.out.trans (hb.mono HB.out.size)); have fH := hb.size; clear hb c0 c1 HX HV HO HB; obtain ⟨c0, c1⟩ := pair_cells B2.out
  go_wp2_with fail
  refine (A9 _ _).mono ?_
  rintro e w' ⟨rfl, rfl⟩; rw [HD.out]; go_wp2
  go_ret2
  exact aDL HN.out cO.out
 have HD := aRA hd
 obtain ⟨g1, g2⟩ := gM.1 hd
 obtain ⟨d, rfl⟩ := Int.eq_ofNat_of_zero_le g1
 have hd4 : d < 4 := by omega
 have HU : Hid (E5 xs l (d : Int) = cY (d : Int) l l.length) := by show _ = _; unfold E5; rw [if_pos ⟨hcb, hd⟩]
 have HR : Hid (rS xs l (d : Int) = if cY (d : Int) l l.length + 1 ≤ xs.getD d 0 then cY (d : Int) l l.length + 1 else 0) := by show _ = _; unfold rS; rw [if_pos ⟨hcb, hd⟩, Int.toNat_natCast]; rfl
 have T4 := aRA (aFx hcb d l.length aRC)
 have hu1 := T4.out.1
 have hu2 := T4.out.2
 have HVe := aRA (gR (tF hcb).1 hd4)
 have hnv : nv = 4 := HV.out.1.symm.trans HVe.out.2.2
 subst hnv
 clear hcb hd g1 g2
 go_enter Tryz.func28, Tryz.ntmps28
 go_wp2_with fail
 generalize w.alloc (.cells #[.slice av 4 cv, .slice ao no co] 27) = w0 at HV HO HB HX dK c0 c1 ⊢
 refine (tD w0 B av ao 4 cv no co xs l HV.out HO.out (by omega) hv hc cM).mono ?_
 rintro e w1 ⟨rfl, hb⟩
 rw [HC.out]
 have B2 := aRA ((hb.block _ (aRB HX.out).1).trans HX.out)
 have lP := aRA (HV.out.below hb (by omega))
 have dL := aRA (HO.out.below hb (by omega))
 have cO := aRA (HB.out.trans (hb.mono HB.out.size))
 have fH := hb.size
 clear hb c0 c1 HX HV HO HB
 obtain ⟨c0, c1⟩ := pair_cells B2.out
 go_wp2_with fail
 refine (A9 _ _).mono ?_
 rintro e w' ⟨rfl, rfl⟩
 rw [HD.out]
 go_wp2_with fail
 refine (aEb w1 B av ao 4 cv no co xs l (d : Int) lP.out dL.out (by omega) hv hc cM).mono ?_
 rintro e w2 ⟨rfl, hb⟩
 rw [aC8, HU.out]
 have sW := aRA ((hb.block _ (aRB B2.out).1).trans B2.out)
 have mZ := aRA (lP.out.below hb (by omega))
 have iZ := aRA (dL.out.below hb (by omega))
 have bK := aRA (cO.out.trans (hb.mono cO.out.size))
 have eV := hb.size
 clear hb c0 c1 B2 lP dL cO
 obtain ⟨c0, c1⟩ := pair_cells sW.out
 generalize cY (d : Int) l l.length = u at HR hu1 hu2 ⊢
 obtain ⟨bv, ov, rfl, hbv, cv'⟩ := mZ.out.2 d hd4
 have N5 := HVe.out.2.1
 generalize xs.getD d 0 = y at HR cv' N5
 by_cases hy : u + 1 ≤ y
 ·have HE : Hid (rS xs l (d : Int) = u + 1) := by show _ = _; rw [HR.out, if_pos hy]
  have aK : ¬ y < u + 1 := by omega
  clear HR; go_wp2
  go_ret2
  exact aLv HE.out (by omega) bK.out
 ·have HE : Hid (rS xs l (d : Int) = 0) := by show _ = _; rw [HR.out, if_neg hy]
  have aK : y < u + 1 := by omega
  clear HR hy; go_wp2
  go_ret2
  exact aDL HE.out bK.out
end Go.Proofs.YthkagbnpcjidfaaGreatDoor
