/- Walks and mathematics that several claims share, part 30. -/
import Derived.Test.YtjokbaaommicmaaGreatDoorGb23
import Derived.Test.YtjokbaaommicmaaGreatDoorGb10
import Derived.Test.YtjokbaaommicmaaGreatDoorGb21
import Derived.RangeFuncNested
import Derived.RangeFuncBound
import Derived.RangeFuncCalls
import Derived.RangeFuncLeaves
import Derived.Shelf.Abstract
import Derived.Shelf.RegionOpen
import Derived.OwnWalkIn
import Derived.TacticsInMore
import Derived.LoopNIn
import Derived.LoopIn
import Derived.Lib.MinMax
import Derived.Deep.Cut
import Derived.Test.YtjokbaaommicmaaGreatDoorGbA
namespace Go.Proofs.YtjokbaaommicmaaGreatDoor
set_option maxRecDepth 100000
open Go.RowKit Go.Shelf
attribute [local go_sem] Oper.semAt_some

theorem liveOps (cs : Array Value) (w : World) (n : Nat) :
  CallsIn Fence.wide n Tryz.prog 133 #[.agg cs] w fun e w' => e = .returned (.func (.func 143) #[] #[.pointer (some ⟨w.heap.size, 0, none⟩)]) ∧ w' = w.alloc (.cells cs 32) := by
 refine callsIn_of_wp Tryz.func133 rfl trivial ?_ rfl
 simp only [Tryz.ntmps133, List.size_toArray, List.length_cons, List.length_nil, Nat.reduceAdd, Nat.reduceSub, Array.replicate_succ, Array.replicate_zero, List.push_toArray, List.append_toArray, List.nil_append, List.cons_append]
 gi_wp2
 go_ret
 exact ⟨rfl, rfl⟩
/-- How the iterator ends: all live operations of a valid cart have come, or a round has said that it wants no more. -/
def LivePost (xs : List Int) (l : List OpV) (J Jx : List OpV → World → Prop) (e : Ending) (W' : World) : Prop :=
 (∃ v, e = .returned v) ∧ ((∃ ys, ys = (if cartB xs l = true then liveTo l l.length else []) ∧ J ys W') ∨ (∃ pre : List OpV, True ∧ Jx pre W'))
theorem live_post_no {xs : List Int} {l : List OpV} {J Jx : List OpV → World → Prop} {v : Value} {W' : World} (h : cartB xs l = false) (hJ : J [] W') : LivePost xs l J Jx (.returned v) W' :=
 ⟨⟨_, rfl⟩, .inl ⟨[], by rw [h]; rfl, hJ⟩⟩
theorem live_post_all {xs : List Int} {l : List OpV} {J Jx : List OpV → World → Prop} {v : Value} {W' : World} (h : cartB xs l = true) (hJ : J (liveTo l l.length) W') : LivePost xs l J Jx (.returned v) W' :=
 ⟨⟨_, rfl⟩, .inl ⟨_, by rw [if_pos h], hJ⟩⟩
theorem live_post_stop {xs : List Int} {l : List OpV} {J Jx : List OpV → World → Prop} {v : Value} {W' : World} (pre : List OpV) (hJ : Jx pre W') : LivePost xs l J Jx (.returned v) W' :=
 ⟨⟨_, rfl⟩, .inr ⟨pre, trivial, hJ⟩⟩
theorem getD_memV {l : List OpV} {k : Nat} (h : k < l.length) : l.getD k OpV.zero ∈ l := by
 rw [List.getD_eq_getElem?_getD, List.getElem?_eq_getElem h]
 exact List.getElem_mem h
theorem below_grown {w w' : World} (h : Below w.heap.size w w') : w.grownBy w' none := ⟨h.os, h.tape, h.output, h.size, fun k hk _ => h.block k hk⟩

set_option maxHeartbeats 10000000 in
theorem liveOps1 (n : Nat) (hn : 1 ≤ n) (lp Bc n₀ : Nat) (av ao : Option Addr) (nv cv no co : Nat) (xs : List Int) (l : List OpV) (hv : nv ≤ 1048576) (hc : no ≤ co) (hc2 : Fits no co)
  (J Jx : List OpV → World → Prop) (hJ : ∀ s W W', J s W → W.grownBy W' none → J s W')
  (hY : ∀ pre x W, J pre W → pre.length < l.length → x ∈ l → YieldAt Fence.wide (n - 1) Tryz.prog lp #[OpV.val x] W fun e W' => (e = .returned (.bool true) ∧ J (pre ++ [x]) W' ∧ Below n₀ W W') ∨ (e = .returned (.bool false) ∧ Jx (pre ++ [x]) W'))
  (W : World) (hBc : W.heap[Bc]? = some (.cells #[.slice av nv cv, .slice ao no co] 32 (0, 0))) (hx : Ints W n₀ av nv xs) (h : Ops W n₀ ao no l) (hn₀ : n₀ ≤ W.heap.size) (h0 : J [] W) :
  CallsIn Fence.wide n Tryz.prog 143 #[.func (.yield lp) #[] #[], .pointer (some ⟨Bc, 0, none⟩)] W (LivePost xs l J Jx) := by
 have hn1048 : no ≤ 1048576 := hc2.1
 have HX := Lib.hid hx
 have HO := Lib.hid h
 have HC := Lib.hid hBc
 have HL := Lib.hid h.1
 have HJ := Lib.hid hJ
 have HY := Lib.hid hY
 have H0 := Lib.hid h0
 obtain ⟨c0, c1⟩ := pair_cells hBc
 clear hx h hBc hJ hY h0
 refine callsIn_of_wp Tryz.func143 rfl trivial ?_ rfl
 simp only [Tryz.ntmps143, List.size_toArray, List.length_cons, List.length_nil, Nat.reduceAdd, Nat.reduceSub, Array.replicate_succ, Array.replicate_zero, List.push_toArray, List.append_toArray, List.nil_append, List.cons_append]
 gi_wp2_with fail
 refine ⟨trivial, (callsIn_wide.2 (implCartOk W n₀ av ao nv cv no co xs l HX.out HO.out hn₀ hv hc hc2)).mono ?_⟩
 rintro e w1 ⟨rfl, hb⟩
 have HJ1 := Lib.hid (HJ.out _ _ _ H0.out (below_grown hb))
 have HO1 := Lib.hid (HO.out.below hb hn₀)
 have HC1 := Lib.hid ((hb.block _ (Array.getElem?_eq_some_iff.1 HC.out).1).trans HC.out)
 have hs1 := hb.size
 clear hb c0 c1 H0 HX HO HC
 obtain ⟨c0, c1⟩ := pair_cells HC1.out
 rcases hcb : cartB xs l with _ | _
 ·have HCn := Lib.hid hcb
  clear hcb
  gi_wp2
  refine bodyPost_ret (results_none rfl _ _ _) rfl ?_
  exact live_post_no HCn.out HJ1.out
 have HCb := Lib.hid hcb
 clear hcb
 gi_wp2
 gi_loopw [11] (fun i wr => ∃ k : Nat, k ≤ no ∧ i = .int .i64 k ∧ Hid (J (liveTo l k) wr) ∧ Hid (Ops wr n₀ ao no l) ∧ Hid (n₀ ≤ wr.heap.size)) (fun i _ => no - (intOf i).toNat)
 case atStart => exact ⟨0, Nat.zero_le _, rfl, HJ1, HO1, by show n₀ ≤ _; omega⟩
 case round =>
  obtain ⟨k, hk, rfl, HJs, HOs, HNs⟩ := hrel
  clear HJ1 HO1 HC1 c0 c1
  by_cases hlt : k < no
  rotate_left
  ·obtain rfl : k = no := by omega
   gi_wp2
   go_end0
   exact live_post_all HCb.out (by rw [HL.out]; exact HJs.out)
  obtain ⟨b, off, rfl, hb, ho⟩ := HOs.out.2 k hlt
  obtain ⟨c0, c1, c2, c3, c4, c5, c6, c7⟩ := ho
  have HYes := Lib.hid (@liveTo_yes l k (by rw [HL.out]; exact hlt))
  have HNo := Lib.hid (@liveTo_no l k (by rw [HL.out]; exact hlt))
  have HMm := Lib.hid (getD_memV (l := l) (k := k) (by rw [HL.out]; exact hlt))
  generalize l.getD k OpV.zero = x at HYes HNo HMm c0 c1 c2 c3 c4 c5 c6 c7
  gi_wp2_with fail
  have HX := Lib.hid (boxAt (Below.refl _ (wr.alloc (.cells #[.int .i64 x.dev, .int .i64 x.seq, .int .i64 x.stamp, .int .i64 x.kind, .string x.item, .int .i64 x.qty, .int .i64 x.level, .int .i64 x.undos] 93))))
  have hb0 : Below wr.heap.size wr (wr.alloc (.cells #[.int .i64 x.dev, .int .i64 x.seq, .int .i64 x.stamp, .int .i64 x.kind, .string x.item, .int .i64 x.qty, .int .i64 x.level, .int .i64 x.undos] 93)) := bl
  generalize wr.alloc (.cells #[.int .i64 x.dev, .int .i64 x.seq, .int .i64 x.stamp, .int .i64 x.kind, .string x.item, .int .i64 x.qty, .int .i64 x.level, .int .i64 x.undos] 93) = w2 at HX hb0 ⊢
  refine ⟨trivial, (callsIn_wide.2 (implLive x.dev x.seq x.stamp x.kind x.item x.qty x.level x.undos w2)).mono ?_⟩
  rintro e w3 ⟨rfl, hb3⟩
  have HX3 := Lib.hid ((hb3.block _ (Array.getElem?_eq_some_iff.1 HX.out).1).trans HX.out)
  have hb1 : Below wr.heap.size wr w3 := hb0.trans (hb3.mono hb0.size)
  have HJ3 := Lib.hid (HJ.out _ _ _ HJs.out (below_grown hb1))
  have HO3 := Lib.hid (HOs.out.below hb1 HNs.out)
  have HN3 : Hid (n₀ ≤ w3.heap.size) := Nat.le_trans HNs.out hb1.size
  clear hb0 hb1 hb3 HX HJs HOs HNs c0 c1 c2 c3 c4 c5 c6 c7
  have ⟨d0, d1, d2, d3, d4, d5, d6, d7⟩ : OpAt w3 wr.heap.size 0 x := ⟨cell_of_row _ _ _ _ _ _ HX3.out, cell_of_row _ _ _ _ _ _ HX3.out, cell_of_row _ _ _ _ _ _ HX3.out, cell_of_row _ _ _ _ _ _ HX3.out, cell_of_row _ _ _ _ _ _ HX3.out, cell_of_row _ _ _ _ _ _ HX3.out, cell_of_row _ _ _ _ _ _ HX3.out, cell_of_row _ _ _ _ _ _ HX3.out⟩
  simp only [Nat.zero_add] at d0 d1 d2 d3 d4 d5 d6 d7
  have HLv : Hid (x.live = liveB x.dev x.seq x.stamp x.kind x.item x.qty x.level x.undos) := rfl
  rcases hlv : liveB x.dev x.seq x.stamp x.kind x.item x.qty x.level x.undos with _ | _
  ·have HE := Lib.hid (HNo.out (HLv.out.trans hlv))
   clear hlv
   gi_wp2
   refine ⟨fun _ h => (by cases h), ?_⟩
   gi_wp2
   go_roundw
   case rel => exact ⟨k + 1, by omega, by go_num, by rw [HE.out]; exact HJ3, HO3, HN3⟩
   case measure => simp [intOf]; omega
  ·have HE := Lib.hid (HYes.out (HLv.out.trans hlv))
   clear hlv
   have HLe := Lib.hid (liveTo_len l k)
   obtain ⟨fn, tmps, assign, body, hy, hR⟩ := HY.out _ x w3 HJ3.out (by have := HLe.out; rw [HL.out]; omega) HMm.out
   unfold OpV.val at hy
   have HR := Lib.hid hR
   clear hR
   gi_wp2
   refine HR.out.mono ?_
   rintro e w4 (⟨rfl, hJ4, hk4⟩ | ⟨rfl, hJx4⟩)
   ·have HJ4 := Lib.hid hJ4
    have HO4 := Lib.hid (HO3.out.below hk4 (Nat.le_refl _))
    have HN4 : Hid (n₀ ≤ w4.heap.size) := Nat.le_trans HN3.out hk4.size
    clear hJ4 hk4
    gi_wp2
    go_roundw
    case rel => exact ⟨k + 1, by omega, by go_num, by rw [HE.out]; exact HJ4, HO4, HN4⟩
    case measure => simp [intOf]; omega
   ·have HJx := Lib.hid hJx4
    clear hJx4
    gi_wp2
    refine bodyPost_ret (results_none rfl _ _ _) rfl ?_
    exact live_post_stop _ HJx.out
end Go.Proofs.YtjokbaaommicmaaGreatDoor

namespace Go.Proofs.YtjokbaaommicmaaGreatDoor
set_option maxRecDepth 100000
open Go.RowKit Go.Shelf
attribute [local go_sem] Oper.semAt_some

/-- The operations that count. -/
def counted (xs : List Int) (l : List OpV) : List OpV := if cartB xs l = true then liveTo l l.length else []
theorem cells_own {β : Type} (B : Nat) (t : TypeId) (f : β → Array Value) : Own (fun s W => W.heap[B]? = some (.cells (f s) t (0, 0))) := fun s X Y row hs hg hrow =>
 (hg.block B (Array.getElem?_eq_some_iff.1 hs).1 (fun e' => by obtain ⟨o, ho, hc⟩ := hrow B e'.symm; rw [hs] at ho; cases ho; cases hc)).trans hs
theorem live_stops (n : Nat) (hn : 1 ≤ n) (Bc n₀ : Nat) (av ao : Option Addr) (nv cv no co : Nat) (xs : List Int) (l : List OpV) (hv : nv ≤ 1048576) (hc : no ≤ co) (hc2 : Fits no co)
  (w : World) (hBc : w.heap[Bc]? = some (.cells #[.slice av nv cv, .slice ao no co] 32 (0, 0))) (hx : Ints w n₀ av nv xs) (h : Ops w n₀ ao no l) (hn₀ : n₀ ≤ w.heap.size) :
  SeqStopsK Fence.wide n Tryz.prog 143 #[.pointer (some ⟨Bc, 0, none⟩)] (fun x : OpV => #[OpV.val x]) (Below n₀) (fun ys => ys = counted xs l) (fun _ => True) l.length w := fun lp J Jx W hW hJ _ hY h0 =>
 liveOps1 n hn lp Bc n₀ av ao nv cv no co xs l hv hc hc2 J Jx (fun s A B hs hg => hJ s A B none hs hg (fun r e => by cases e)) (fun pre x W hj hl _ => hY pre x W hj hl) W ((hW.block _ (Array.getElem?_eq_some_iff.1 hBc).1).trans hBc) (hx.below hW hn₀) (h.below hW hn₀) (Nat.le_trans hn₀ hW.size) h0

set_option maxHeartbeats 10000000 in
theorem lastLive (w : World) (B : Nat) (av ao : Option Addr) (nv cv no co : Nat) (xs : List Int) (l : List OpV) (dev : Int) (hx : Ints w B av nv xs) (h : Ops w B ao no l) (hB : B ≤ w.heap.size) (hv : nv ≤ 1048576) (hc : no ≤ co) (hc2 : Fits no co) :
  Calls Tryz.prog 119 #[.agg #[.slice av nv cv, .slice ao no co], .int .i64 dev] w fun e w' => e = .returned (.int .i64 (lastOf dev (counted xs l))) ∧ Below w.heap.size w w' := by
 have hn1048 : no ≤ 1048576 := hc2.1
 have HX := Lib.hid (hx.more hB)
 have HO := Lib.hid (h.more hB)
 clear hx h hB
 refine (callsIn_wide (n := 8)).1 ?_
 refine callsIn_of_wp_marks Tryz.func119 rfl trivial ?_ rfl
 simp only [Tryz.ntmps119, List.size_toArray, List.length_cons, List.length_nil, Nat.reduceAdd, Nat.reduceSub, Array.replicate_succ, Array.replicate_zero, List.push_toArray, List.append_toArray, List.nil_append, List.cons_append]
 gi_wp2_with fail
 refine ⟨trivial, (liveOps _ _ _).mono ?_⟩
 rintro e w' ⟨rfl, rfl⟩
 have hb1 := ((Boxed.new (w.alloc (.cells #[.slice av nv cv, .slice ao no co] 32)) 2 (.int .i64 dev)).alloc (.cells #[.int .i64 0] 2)).alloc (.cells #[.slice av nv cv, .slice ao no co] 32)
 have hb2 := (Boxed.new ((w.alloc (.cells #[.slice av nv cv, .slice ao no co] 32)).alloc (.cells #[.int .i64 dev] 2)) 2 (.int .i64 0)).alloc (.cells #[.slice av nv cv, .slice ao no co] 32)
 have hb3 := boxAt (Below.refl _ ((((w.alloc (.cells #[.slice av nv cv, .slice ao no co] 32)).alloc (.cells #[.int .i64 dev] 2)).alloc (.cells #[.int .i64 0] 2)).alloc (.cells #[.slice av nv cv, .slice ao no co] 32)))
 have hB0 : Below w.heap.size w ((((w.alloc (.cells #[.slice av nv cv, .slice ao no co] 32)).alloc (.cells #[.int .i64 dev] 2)).alloc (.cells #[.int .i64 0] 2)).alloc (.cells #[.slice av nv cv, .slice ao no co] 32)) := ((((Below.refl _ w).alloc (Nat.le_refl _) _).alloc (by simp) _).alloc (by simp; omega) _).alloc (by simp; omega) _
 have hsz : ((((w.alloc (.cells #[.slice av nv cv, .slice ao no co] 32)).alloc (.cells #[.int .i64 dev] 2)).alloc (.cells #[.int .i64 0] 2)).alloc (.cells #[.slice av nv cv, .slice ao no co] 32)).heap.size = w.heap.size + 1 + 1 + 1 + 1 := by simp
 simp only [World.size_alloc] at hb1 hb2 hb3
 gi_wp2
 generalize ((((w.alloc (.cells #[.slice av nv cv, .slice ao no co] 32)).alloc (.cells #[.int .i64 dev] 2)).alloc (.cells #[.int .i64 0] 2)).alloc (.cells #[.slice av nv cv, .slice ao no co] 32)) = W0 at hb1 hb2 hb3 hB0 hsz ⊢
 refine wpIn_rangeFunc_ownH rfl (by omega) (gf := 143) (lb := #[.pointer (some ⟨w.heap.size + 1 + 1 + 1, 0, none⟩)]) rfl trivial (enters_of Tryz.func143 (by kernel_rfl) rfl)
  (live_stops _ (by omega) (w.heap.size + 1 + 1 + 1) w.heap.size av ao nv cv no co xs l hv hc hc2 W0 hb3 (HX.out.below hB0 (Nat.le_refl _)) (HO.out.below hB0 (Nat.le_refl _)) (by omega))
  belowK_t (belowK_b (by omega)) (Below.refl _ _) (fun _ => rfl)
  (fun pre W => (Boxed W (w.heap.size + 1) 2 (.int .i64 dev) ∧ Boxed W (w.heap.size + 1 + 1) 2 (.int .i64 (lastOf dev pre))) ∧ Below w.heap.size w W)
  (fun _ _ _ => False)
  (OwnFrom.and (OwnFrom.and (Own.from (boxed_own _ _ _) _) (Own.from (boxed_own _ _ (fun pre => .int .i64 (lastOf dev pre))) _)) (ownFrom_below (Nat.le_refl _) (by omega)))
  (fun _ _ _ _ _ hs _ _ => hs)
  ⟨⟨hb1, hb2⟩, hB0⟩
  (fun x a' W => ∃ Bx, w.heap.size + 1 + 1 < Bx ∧ W.heap[Bx]? = some (.cells #[.int .i64 x.dev, .int .i64 x.seq, .int .i64 x.stamp, .int .i64 x.kind, .string x.item, .int .i64 x.qty, .int .i64 x.level, .int .i64 x.undos] 93 (0, 0)) ∧ a' = { tmps := #[.agg #[.slice av nv cv, .slice ao no co], .int .i64 dev, .pointer (some ⟨w.heap.size, 0, none⟩), .pointer (some ⟨w.heap.size + 1, 0, none⟩), .int .i64 0, .pointer (some ⟨w.heap.size + 1 + 1, 0, none⟩), .pointer (some ⟨Bx, 0, none⟩), .agg #[.slice av nv cv, .slice ao no co], .func (.func 143) #[] #[.pointer (some ⟨w.heap.size + 1 + 1 + 1, 0, none⟩)], OpV.val x, undef, undef, undef, undef, undef, undef, undef, undef, undef], defers := [] })
  (fun x a' s A B row hs hg hr => by
   obtain ⟨Bx, h1, h2, h3⟩ := hs
   exact ⟨Bx, h1, (cells_own (β := Unit) Bx _ (fun _ => _)).from _ () A B row h2 hg hr, h3⟩) ?assign ?body ?done ?stop
 case assign =>
  rintro lp pre x W K ⟨⟨h1, h2⟩, h3⟩ hK
  unfold OpV.val
  gi_wp2
  exact hK _ _ ((KeepsOthers.alloc _ _).from _) ((Below.refl _ W).alloc h3.size _) ⟨⟨h1.alloc _, h2.alloc _⟩, h3.alloc h3.size _⟩ ⟨W.heap.size, h2.lt, World.alloc_heap_new W _, rfl⟩
 case body =>
  rintro lp pre x a' W hl ⟨r, hr⟩ ⟨⟨h1, h2⟩, h3⟩ ⟨Bx, hBx, hX, rfl⟩ hlen
  have d0 := cell_of_row W Bx 0 _ _ _ hX
  have d1 := cell_of_row W Bx 1 _ _ _ hX
  simp only [List.getElem?_toArray, List.getElem?_cons_zero, List.getElem?_cons_succ] at d0 d1
  have g1 := h1.cell
  have g2 := h2.cell
  have g3 := h2.frozen
  have H1 := Lib.hid h1
  have H2 := Lib.hid h2
  have H3 := Lib.hid h3
  have HS := Lib.hid (lastOf_snoc dev pre x)
  clear h1 h2 h3 hX hr
  by_cases hd : x.dev = dev
  ·have hb : (x.dev == dev) = true := by rw [hd]; exact beq_self_eq_true _
   have HE : Hid (lastOf dev (pre ++ [x]) = max (lastOf dev pre) x.seq) := by show _ = _; rw [HS.out, if_pos hd]
   clear hd HS
   gi_wp2
   exact ⟨(KeepsOthers.setCell _ _ _).from _, (Below.refl _ W).setCell (p := ⟨w.heap.size + 1 + 1, 0, none⟩) (by show _ ≤ w.heap.size + 1 + 1; omega) _, ⟨H1.out.other (by omega) _, by rw [HE.out]; exact H2.out.set _⟩, H3.out.setCell (p := ⟨w.heap.size + 1 + 1, 0, none⟩) (by show _ ≤ w.heap.size + 1 + 1; omega) _⟩
  ·have hb : (x.dev == dev) = false := by rw [beq_eq_false_iff_ne]; exact hd
   have HE : Hid (lastOf dev (pre ++ [x]) = lastOf dev pre) := by show _ = _; rw [HS.out, if_neg hd]
   clear hd HS
   gi_wp2
   exact ⟨KeepsFrom.refl _ _, Below.refl _ _, ⟨H1.out, by rw [HE.out]; exact H2.out⟩, H3.out⟩
 case done =>
  rintro D ys W hD rfl ⟨⟨h1, h2⟩, h3⟩ hK
  have g2 := h2.cell
  gi_wp2
  refine ⟨by simp, .inl ⟨_, _, rfl, run_takeDeferred hK, ?_⟩⟩
  exact ⟨_, results_tmp rfl _ _ _, rfl, h3.trans (belowK_b (w := w) (Nat.le_refl _) W D _ _ (by omega) hK rfl rfl)⟩
 case stop =>
  rintro D c pre W _ _ h _
  exact h.elim
end Go.Proofs.YtjokbaaommicmaaGreatDoor

namespace Go.Proofs.YtjokbaaommicmaaGreatDoor
set_option maxRecDepth 100000
open Go.RowKit

set_option maxHeartbeats 10000000 in
theorem l6Undo (w : World) (B : Nat) (av ao : Option Addr) (nv cv no co : Nat) (xs : List Int) (l : List OpV) (dev : Int) (h : Ops w B ao no l) (hB : B ≤ w.heap.size) (hn : no ≤ 1048576) (hc : cartB xs l = true) : Calls Tryz.prog 72 #[.agg #[.slice av nv cv, .slice ao no co], .int .i64 dev] w fun e w' => e = .returned (.int .i64 (undoTo dev l l.length)) ∧ Below w.heap.size w w' := by
 have hb0 : Below w.heap.size w (w.alloc (.cells #[.slice av nv cv, .slice ao no co] 32)) := (Below.refl _ w).alloc (Nat.le_refl _) _
 have HO := Lib.hid (h.below hb0 hB)
 have HB := Lib.hid hb0
 have HX := Lib.hid (boxAt (Below.refl _ (w.alloc (.cells #[.slice av nv cv, .slice ao no co] 32))))
 have HL := Lib.hid h.1
 have hsz : w.heap.size < (w.alloc (.cells #[.slice av nv cv, .slice ao no co] 32)).heap.size := by show _ < (w.heap.push _).size; simp
 have HC : Hid (∀ k, k < no → 0 ≤ (l.getD k OpV.zero).undos) := fun k hk => by
  obtain ⟨_, _, _, _, _, hok, _, _⟩ := cart_atV hc (i := k) (by rw [h.1]; exact hk)
  exact (undos_of hok).1
 clear h hb0 hc
 go_enter Tryz.func72, Tryz.ntmps72
 go_wp2_with fail
 generalize w.alloc (.cells #[.slice av nv cv, .slice ao no co] 32) = w0 at HO HB HX hsz ⊢
 go_wp2
 go_loopw [5, 6] (fun n i wr => ∃ k : Nat, k ≤ no ∧ i = .int .i64 k ∧ n = .int .i64 (undoTo dev l k) ∧ Hid (Below w0.heap.size w0 wr)) (fun _ i _ => no - (intOf i).toNat)
 case atStart => exact ⟨0, Nat.zero_le _, rfl, rfl, Below.refl _ _⟩
 case round =>
  obtain ⟨k, hk, rfl, rfl, HBr⟩ := hrel
  obtain ⟨c0, c1⟩ := pair_cells ((HBr.out.block _ hsz).trans HX.out)
  by_cases hlt : k < no
  rotate_left
  ·obtain rfl : k = no := by omega
   go_wp2
   go_ret
   exact ⟨by rw [HL.out]; rfl, HB.out.trans (HBr.out.mono HB.out.size)⟩
  obtain ⟨b, off, rfl, hb, ho⟩ := HO.out.2 k hlt
  obtain ⟨d0, d1, d2, d3, d4, d5, d6, d7⟩ := ho.kept (HBr.out.block b (by omega))
  have hu0 := HC.out k hlt
  have HU : Hid (undoTo dev l (k + 1) = if (l.getD k OpV.zero).dev = dev ∧ (l.getD k OpV.zero).undos % 2 = 0 then (l.getD k OpV.zero).seq else undoTo dev l k) := rfl
  have HO1 := Lib.hid ho
  clear ho
  generalize l.getD k OpV.zero = x at HU hu0 d0 d1 d2 d3 d4 d5 d6 d7 HO1
  by_cases hd : x.dev = dev
  rotate_left
  ·have hbq : (x.dev == dev) = false := by rw [beq_eq_false_iff_ne]; exact hd
   have HE : Hid (undoTo dev l (k + 1) = undoTo dev l k) := by show _ = _; rw [HU.out, if_neg (fun h => hd h.1)]
   clear hd HU
   go_wp2
   go_roundw
   case rel => exact ⟨k + 1, by omega, by go_num, by rw [HE.out], HBr⟩
   case measure => simp [intOf]; omega
  have hbq : (x.dev == dev) = true := by rw [hd]; exact beq_self_eq_true _
  have HD := Lib.hid hd
  clear hd
  go_wp2_with fail
  refine (l3Live x.dev x.seq x.stamp x.kind x.item x.qty x.level x.undos _ hu0).mono ?_
  rintro e w2 ⟨rfl, hb2⟩
  have HB2 := Lib.hid (HBr.out.trans (hb2.mono HBr.out.size))
  clear hb2 c0 c1 d0 d1 d2 d3 d4 d5 d6 d7
  obtain ⟨c0, c1⟩ := pair_cells ((HB2.out.block _ hsz).trans HX.out)
  obtain ⟨d0, d1, d2, d3, d4, d5, d6, d7⟩ := HO1.out.kept (HB2.out.block b (by omega))
  by_cases hu : x.undos % 2 = 0
  ·have hq : decide (x.undos % 2 = 0) = true := decide_eq_true hu
   have HE : Hid (undoTo dev l (k + 1) = x.seq) := by show _ = _; rw [HU.out, if_pos ⟨HD.out, hu⟩]
   rw [hq]
   clear hu hq HU
   go_wp2
   go_roundw
   case rel => exact ⟨k + 1, by omega, by go_num, by rw [HE.out], HB2⟩
   case measure => simp [intOf]; omega
  ·have hq : decide (x.undos % 2 = 0) = false := decide_eq_false hu
   have HE : Hid (undoTo dev l (k + 1) = undoTo dev l k) := by show _ = _; rw [HU.out, if_neg (fun h => hu h.2)]
   rw [hq]
   clear hu hq HU
   go_wp2
   go_roundw
   case rel => exact ⟨k + 1, by omega, by go_num, by rw [HE.out], HB2⟩
   case measure => simp [intOf]; omega

/-- What looking for a device's operation by its number answers. -/
def AtPost (l : List OpV) (dev seq : Int) (w : World) (e : Ending) (w' : World) : Prop :=
 w = w' ∧ ((∃ i : Nat, i < l.length ∧ (atOp l i).dev = dev ∧ (atOp l i).seq = seq ∧ e = .returned (.int .i64 (i : Int))) ∨ ((∀ i, i < l.length → ¬ ((atOp l i).dev = dev ∧ (atOp l i).seq = seq)) ∧ e = .returned (.int .i64 (-1))))
set_option maxHeartbeats 10000000 in
theorem l4AtT (w : World) (B : Nat) (ao : Option Addr) (no co : Nat) (l : List OpV) (dev seq : Int) (h : Ops w B ao no l) (hn : no ≤ 1048576) : Calls Tryz.prog 94 #[.slice ao no co, .int .i64 dev, .int .i64 seq] w (AtPost l dev seq w) := by
 have HO := Lib.hid h
 have HL := Lib.hid h.1
 clear h
 go_enter Tryz.func94, Tryz.ntmps94
 go_wp2
 go_loop [7] (fun i => ∃ k : Nat, k ≤ no ∧ i = .int .i64 k ∧ Hid (∀ j, j < k → ¬ ((atOp l j).dev = dev ∧ (atOp l j).seq = seq))) (fun i => no - (intOf i).toNat)
 case atStart => exact ⟨0, Nat.zero_le _, rfl, fun j hj => by omega⟩
 case round =>
  obtain ⟨k, hk, rfl, HN⟩ := hrel
  by_cases hlt : k < no
  rotate_left
  ·obtain rfl : k = no := by omega
   go_wp2
   go_ret
   exact ⟨rfl, .inr ⟨by rw [HL.out]; exact HN.out, rfl⟩⟩
  obtain ⟨b, off, rfl, hb, ho⟩ := HO.out.2 k hlt
  obtain ⟨d0, d1, _⟩ := ho
  have HA : Hid (l.getD k OpV.zero = atOp l k) := rfl
  rw [HA.out] at d0 d1
  by_cases hd : (atOp l k).dev = dev ∧ (atOp l k).seq = seq
  ·have HD := Lib.hid hd
   have b1 : ((atOp l k).dev == dev) = true := by rw [hd.1]; exact beq_self_eq_true _
   have b2 : ((atOp l k).seq == seq) = true := by rw [hd.2]; exact beq_self_eq_true _
   clear hd
   generalize hx : atOp l k = x at b1 b2 d0 d1
   have HXe := Lib.hid hx
   clear hx
   go_wp2
   go_ret
   exact ⟨rfl, .inl ⟨k, by rw [HL.out]; exact hlt, HD.out.1, HD.out.2, rfl⟩⟩
  ·have HN2 : Hid (∀ j, j < k + 1 → ¬ ((atOp l j).dev = dev ∧ (atOp l j).seq = seq)) := fun j hj => by
    rcases Nat.lt_or_ge j k with h1 | h1
    ·exact HN.out j h1
    ·obtain rfl : j = k := by omega
     exact hd
   by_cases h1 : (atOp l k).dev = dev
   ·have h2 : ¬ (atOp l k).seq = seq := fun h => hd ⟨h1, h⟩
    have b1 : ((atOp l k).dev == dev) = true := by rw [h1]; exact beq_self_eq_true _
    have b2 : ((atOp l k).seq == seq) = false := by rw [beq_eq_false_iff_ne]; exact h2
    clear hd h1 h2
    generalize atOp l k = x at b1 b2 d0 d1
    go_wp2
    go_round
    case rel => exact ⟨k + 1, by omega, by go_num, HN2⟩
    case measure => simp [intOf]; omega
   ·have b1 : ((atOp l k).dev == dev) = false := by rw [beq_eq_false_iff_ne]; exact h1
    clear hd h1
    generalize atOp l k = x at b1 d0 d1
    go_wp2
    go_round
    case rel => exact ⟨k + 1, by omega, by go_num, HN2⟩
    case measure => simp [intOf]; omega

/-- The number behind a device's last live operation, 0 where there is no such operation. -/
def redoTo (xs : List Int) (d : Nat) (l : List OpV) : Int := if undoTo (d : Int) l l.length + 1 ≤ xs.getD d 0 then undoTo (d : Int) l l.length + 1 else 0
set_option maxHeartbeats 10000000 in
theorem l6Redo (w : World) (B : Nat) (av ao : Option Addr) (nv cv no co : Nat) (xs : List Int) (l : List OpV) (d : Nat) (hd : d < 4) (h : Ops w B ao no l) (hB : B ≤ w.heap.size) (hn : no ≤ 1048576) (hc : cartB xs l = true) : Calls Tryz.prog 73 #[.agg #[.slice av nv cv, .slice ao no co], .int .i64 (d : Int)] w fun e w' => e = .returned (.int .i64 (redoTo xs d l)) ∧ Below w.heap.size w w' := by
 have hb0 : Below w.heap.size w (w.alloc (.cells #[.slice av nv cv, .slice ao no co] 32)) := (Below.refl _ w).alloc (Nat.le_refl _) _
 have HO := Lib.hid (h.below hb0 hB)
 have HB := Lib.hid hb0
 have HX := Lib.hid (boxAt (Below.refl _ (w.alloc (.cells #[.slice av nv cv, .slice ao no co] 32))))
 have HL := Lib.hid h.1
 have hsz : w.heap.size < (w.alloc (.cells #[.slice av nv cv, .slice ao no co] 32)).heap.size := by show _ < (w.heap.push _).size; simp
 have HC := Lib.hid hc
 have HR := Lib.hid (undo_le hc d l.length (Nat.le_refl _))
 have HH := Lib.hid (fun (n : Int) hn => cart_hasV hc hd (n := n) hn)
 have hr1 := HR.out.1
 have hr2 := HR.out.2
 have HRe : Hid (redoTo xs d l = if undoTo (d : Int) l l.length + 1 ≤ xs.getD d 0 then undoTo (d : Int) l l.length + 1 else 0) := rfl
 clear h hb0 hc
 obtain ⟨c0, c1⟩ := pair_cells HX.out
 go_enter Tryz.func73, Tryz.ntmps73
 go_wp2_with fail
 generalize w.alloc (.cells #[.slice av nv cv, .slice ao no co] 32) = w0 at HO HB HX hsz c0 c1 ⊢
 refine (l6Undo w0 B av ao nv cv no co xs l (d : Int) HO.out (by omega) hn HC.out).mono ?_
 rintro e w2 ⟨rfl, hb2⟩
 have HX2 := Lib.hid ((hb2.block _ hsz).trans HX.out)
 have HO2 := Lib.hid (HO.out.below hb2 (by omega))
 have HB2 := Lib.hid (HB.out.trans (hb2.mono HB.out.size))
 clear hb2 c0 c1 HX HO HB
 obtain ⟨c0, c1⟩ := pair_cells HX2.out
 generalize undoTo (d : Int) l l.length = u at hr1 hr2 HRe ⊢
 go_wp2_with fail
 refine (l4AtT w2 B ao no co l (d : Int) (u + 1) HO2.out hn).mono ?_
 rintro e w' ⟨rfl, ⟨i, hi, h1, h2, rfl⟩ | ⟨hno, rfl⟩⟩
 ·have HE : Hid (redoTo xs d l = u + 1) := by show _ = _; rw [HRe.out, if_pos ((HH.out (u + 1) (by omega)).2 ⟨i, hi, h1, h2⟩)]
  clear hi h1 h2
  have hlt : decide ((i : Int) < 0) = false := decide_eq_false (by omega)
  go_wp2
  go_ret
  exact ⟨by rw [HE.out]; rfl, HB2.out⟩
 ·have HE : Hid (redoTo xs d l = 0) := by
   show _ = _
   rw [HRe.out, if_neg (fun h => by
    obtain ⟨i, hi, h1, h2⟩ := (HH.out (u + 1) (by omega)).1 h
    exact hno i hi ⟨h1, h2⟩)]
  clear hno
  go_wp2
  go_ret
  exact ⟨by rw [HE.out]; rfl, HB2.out⟩

def StV.cells (s : StV) : Array Value := #[.int .i64 s.level, .int .i64 s.counted.dev, .int .i64 s.counted.seq, .int .i64 s.counted.stamp, .int .i64 s.counted.kind, .string s.counted.item, .int .i64 s.counted.qty, .int .i64 s.counted.level, .int .i64 s.counted.undos, .int .i64 s.placed.dev, .int .i64 s.placed.seq, .int .i64 s.placed.stamp, .int .i64 s.placed.kind, .string s.placed.item, .int .i64 s.placed.qty, .int .i64 s.placed.level, .int .i64 s.placed.undos]
def StV.val (s : StV) : Value := .agg s.cells
theorem st_frozen {w : World} {b : Nat} {cs : Array Value} {T : TypeId} (h : w.heap[b]? = some (.cells cs T (0, 0))) : w.frozen? ⟨b, 0, none⟩ = false ∧ w.frozen? ⟨b, 1, none⟩ = false ∧ w.frozen? ⟨b, 2, none⟩ = false ∧ w.frozen? ⟨b, 3, none⟩ = false ∧ w.frozen? ⟨b, 4, none⟩ = false ∧ w.frozen? ⟨b, 5, none⟩ = false ∧ w.frozen? ⟨b, 6, none⟩ = false ∧ w.frozen? ⟨b, 7, none⟩ = false ∧ w.frozen? ⟨b, 8, none⟩ = false ∧ w.frozen? ⟨b, 9, none⟩ = false ∧ w.frozen? ⟨b, 10, none⟩ = false ∧ w.frozen? ⟨b, 11, none⟩ = false ∧ w.frozen? ⟨b, 12, none⟩ = false ∧ w.frozen? ⟨b, 13, none⟩ = false ∧ w.frozen? ⟨b, 14, none⟩ = false ∧ w.frozen? ⟨b, 15, none⟩ = false ∧ w.frozen? ⟨b, 16, none⟩ = false :=
 ⟨frozen_of_row _ _ _ _ _ h, frozen_of_row _ _ _ _ _ h, frozen_of_row _ _ _ _ _ h, frozen_of_row _ _ _ _ _ h, frozen_of_row _ _ _ _ _ h, frozen_of_row _ _ _ _ _ h, frozen_of_row _ _ _ _ _ h, frozen_of_row _ _ _ _ _ h, frozen_of_row _ _ _ _ _ h, frozen_of_row _ _ _ _ _ h, frozen_of_row _ _ _ _ _ h, frozen_of_row _ _ _ _ _ h, frozen_of_row _ _ _ _ _ h, frozen_of_row _ _ _ _ _ h, frozen_of_row _ _ _ _ _ h, frozen_of_row _ _ _ _ _ h, frozen_of_row _ _ _ _ _ h⟩
/-- Three blocks that a call has laid first: two arguments and a result. -/
structure Tri (w w1 : World) (x y z : Array Value) (S T U : TypeId) : Prop where
 fst : w1.heap[w.heap.size]? = some (.cells x S (0, 0))
 snd : w1.heap[w.heap.size + 1]? = some (.cells y T (0, 0))
 res : w1.heap[w.heap.size + 1 + 1]? = some (.cells z U (0, 0))
 bel : Below w.heap.size w w1
theorem Tri.mk0 (w : World) (x y z : Array Value) (S T U : TypeId) : Tri w (((w.alloc (.cells x S)).alloc (.cells y T)).alloc (.cells z U)) x y z S T U := by
 have e1 : (w.alloc (.cells x S)).heap.size = w.heap.size + 1 := by simp
 have e2 : ((w.alloc (.cells x S)).alloc (.cells y T)).heap.size = w.heap.size + 1 + 1 := by simp
 refine ⟨?_, ?_, ?_, (((Below.refl _ w).alloc (Nat.le_refl _) _).alloc (by simp) _).alloc (by simp; omega) _⟩
 ·rw [Below.heap_alloc _ _ _ (by omega), Below.heap_alloc _ _ _ (by omega)]
  exact World.alloc_heap_new w _
 ·rw [Below.heap_alloc _ _ _ (by omega), ← e1]
  exact World.alloc_heap_new _ _
 ·rw [← e2]
  exact World.alloc_heap_new _ _
theorem Tri.next {w w1 w2 : World} {x y z : Array Value} {S T U : TypeId} (h : Tri w w1 x y z S T U) (hb : Below w1.heap.size w1 w2) : Tri w w2 x y z S T U :=
 ⟨(hb.block _ (Array.getElem?_eq_some_iff.1 h.fst).1).trans h.fst, (hb.block _ (Array.getElem?_eq_some_iff.1 h.snd).1).trans h.snd, (hb.block _ (Array.getElem?_eq_some_iff.1 h.res).1).trans h.res, h.bel.trans (hb.mono h.bel.size)⟩

set_option maxHeartbeats 10000000 in
theorem laterW (a b : OpV) (w : World) : Calls Tryz.prog 147 #[a.val, b.val] w fun e w' => e = .returned (laterV a b).val ∧ Below w.heap.size w w' := by
 have H := Lib.hid (Tri.mk0 w #[.int .i64 a.dev, .int .i64 a.seq, .int .i64 a.stamp, .int .i64 a.kind, .string a.item, .int .i64 a.qty, .int .i64 a.level, .int .i64 a.undos] #[.int .i64 b.dev, .int .i64 b.seq, .int .i64 b.stamp, .int .i64 b.kind, .string b.item, .int .i64 b.qty, .int .i64 b.level, .int .i64 b.undos] #[.int .i64 0, .int .i64 0, .int .i64 0, .int .i64 0, .string ⟨#[]⟩, .int .i64 0, .int .i64 0, .int .i64 0] 93 93 93)
 show Calls Tryz.prog 147 #[.agg #[.int .i64 a.dev, .int .i64 a.seq, .int .i64 a.stamp, .int .i64 a.kind, .string a.item, .int .i64 a.qty, .int .i64 a.level, .int .i64 a.undos], .agg #[.int .i64 b.dev, .int .i64 b.seq, .int .i64 b.stamp, .int .i64 b.kind, .string b.item, .int .i64 b.qty, .int .i64 b.level, .int .i64 b.undos]] w _
 rcases hbf : befW b a with _ | _
 ·have HE : Hid (laterV a b = b) := by show _ = _; unfold laterV; rw [hbf]; rfl
  have HQ := Lib.hid hbf
  clear hbf
  go_enter Tryz.func147, Tryz.ntmps147
  go_wp2_with fail
  generalize ((w.alloc (.cells #[.int .i64 a.dev, .int .i64 a.seq, .int .i64 a.stamp, .int .i64 a.kind, .string a.item, .int .i64 a.qty, .int .i64 a.level, .int .i64 a.undos] 93)).alloc (.cells #[.int .i64 b.dev, .int .i64 b.seq, .int .i64 b.stamp, .int .i64 b.kind, .string b.item, .int .i64 b.qty, .int .i64 b.level, .int .i64 b.undos] 93)).alloc (.cells #[.int .i64 0, .int .i64 0, .int .i64 0, .int .i64 0, .string ⟨#[]⟩, .int .i64 0, .int .i64 0, .int .i64 0] 93) = w0 at H ⊢
  refine (implBefore b.dev b.seq b.stamp b.kind b.item b.qty b.level b.undos a.dev a.seq a.stamp a.kind a.item a.qty a.level a.undos w0).mono ?_
  rintro e w1 ⟨rfl, hb⟩
  have H1 := Lib.hid (H.out.next hb)
  clear hb H
  have HQ2 : Hid (befB b.dev b.seq b.stamp b.kind b.item b.qty b.level b.undos a.dev a.seq a.stamp a.kind a.item a.qty a.level a.undos = false) := HQ.out
  rw [HQ2.out]
  obtain ⟨c0, c1, c2, c3, c4, c5, c6, c7⟩ := op_cells H1.out.snd
  obtain ⟨e0, e1, e2, e3, e4, e5, e6, e7⟩ := op_cells H1.out.res
  obtain ⟨f0, f1, f2, f3, f4, f5, f6, f7⟩ := op_frozen H1.out.res
  go_wp2
  have HX := Lib.hid (setOp_same (.int .i64 b.dev) (.int .i64 b.seq) (.int .i64 b.stamp) (.int .i64 b.kind) (.string b.item) (.int .i64 b.qty) (.int .i64 b.level) (.int .i64 b.undos) H1.out.res)
  have HB := Lib.hid (setOp_below (.int .i64 b.dev) (.int .i64 b.seq) (.int .i64 b.stamp) (.int .i64 b.kind) (.string b.item) (.int .i64 b.qty) (.int .i64 b.level) (.int .i64 b.undos) H1.out.bel (by show _ ≤ w.heap.size + 1 + 1; omega))
  clear c0 c1 c2 c3 c4 c5 c6 c7 e0 e1 e2 e3 e4 e5 e6 e7 f0 f1 f2 f3 f4 f5 f6 f7
  change bodyPost _ _ _ _ _ (setOp w1 (w.heap.size + 1 + 1) (.int .i64 b.dev) (.int .i64 b.seq) (.int .i64 b.stamp) (.int .i64 b.kind) (.string b.item) (.int .i64 b.qty) (.int .i64 b.level) (.int .i64 b.undos))
  generalize setOp w1 (w.heap.size + 1 + 1) (.int .i64 b.dev) (.int .i64 b.seq) (.int .i64 b.stamp) (.int .i64 b.kind) (.string b.item) (.int .i64 b.qty) (.int .i64 b.level) (.int .i64 b.undos) = wf at HX HB ⊢
  obtain ⟨d0, d1, d2, d3, d4, d5, d6, d7⟩ := op_cells HX.out
  exact bodyPost_ret (v := .agg #[.int .i64 b.dev, .int .i64 b.seq, .int .i64 b.stamp, .int .i64 b.kind, .string b.item, .int .i64 b.qty, .int .i64 b.level, .int .i64 b.undos]) (by simp [results, Tryz.results147, go_sem, d0, d1, d2, d3, d4, d5, d6, d7]) rfl ⟨by rw [HE.out]; rfl, HB.out⟩
 ·have HE : Hid (laterV a b = a) := by show _ = _; unfold laterV; rw [hbf]; rfl
  have HQ := Lib.hid hbf
  clear hbf
  go_enter Tryz.func147, Tryz.ntmps147
  go_wp2_with fail
  generalize ((w.alloc (.cells #[.int .i64 a.dev, .int .i64 a.seq, .int .i64 a.stamp, .int .i64 a.kind, .string a.item, .int .i64 a.qty, .int .i64 a.level, .int .i64 a.undos] 93)).alloc (.cells #[.int .i64 b.dev, .int .i64 b.seq, .int .i64 b.stamp, .int .i64 b.kind, .string b.item, .int .i64 b.qty, .int .i64 b.level, .int .i64 b.undos] 93)).alloc (.cells #[.int .i64 0, .int .i64 0, .int .i64 0, .int .i64 0, .string ⟨#[]⟩, .int .i64 0, .int .i64 0, .int .i64 0] 93) = w0 at H ⊢
  refine (implBefore b.dev b.seq b.stamp b.kind b.item b.qty b.level b.undos a.dev a.seq a.stamp a.kind a.item a.qty a.level a.undos w0).mono ?_
  rintro e w1 ⟨rfl, hb⟩
  have H1 := Lib.hid (H.out.next hb)
  clear hb H
  have HQ2 : Hid (befB b.dev b.seq b.stamp b.kind b.item b.qty b.level b.undos a.dev a.seq a.stamp a.kind a.item a.qty a.level a.undos = true) := HQ.out
  rw [HQ2.out]
  obtain ⟨c0, c1, c2, c3, c4, c5, c6, c7⟩ := op_cells H1.out.fst
  obtain ⟨e0, e1, e2, e3, e4, e5, e6, e7⟩ := op_cells H1.out.res
  obtain ⟨f0, f1, f2, f3, f4, f5, f6, f7⟩ := op_frozen H1.out.res
  go_wp2
  have HX := Lib.hid (setOp_same (.int .i64 a.dev) (.int .i64 a.seq) (.int .i64 a.stamp) (.int .i64 a.kind) (.string a.item) (.int .i64 a.qty) (.int .i64 a.level) (.int .i64 a.undos) H1.out.res)
  have HB := Lib.hid (setOp_below (.int .i64 a.dev) (.int .i64 a.seq) (.int .i64 a.stamp) (.int .i64 a.kind) (.string a.item) (.int .i64 a.qty) (.int .i64 a.level) (.int .i64 a.undos) H1.out.bel (by show _ ≤ w.heap.size + 1 + 1; omega))
  clear c0 c1 c2 c3 c4 c5 c6 c7 e0 e1 e2 e3 e4 e5 e6 e7 f0 f1 f2 f3 f4 f5 f6 f7
  change bodyPost _ _ _ _ _ (setOp w1 (w.heap.size + 1 + 1) (.int .i64 a.dev) (.int .i64 a.seq) (.int .i64 a.stamp) (.int .i64 a.kind) (.string a.item) (.int .i64 a.qty) (.int .i64 a.level) (.int .i64 a.undos))
  generalize setOp w1 (w.heap.size + 1 + 1) (.int .i64 a.dev) (.int .i64 a.seq) (.int .i64 a.stamp) (.int .i64 a.kind) (.string a.item) (.int .i64 a.qty) (.int .i64 a.level) (.int .i64 a.undos) = wf at HX HB ⊢
  obtain ⟨d0, d1, d2, d3, d4, d5, d6, d7⟩ := op_cells HX.out
  exact bodyPost_ret (v := .agg #[.int .i64 a.dev, .int .i64 a.seq, .int .i64 a.stamp, .int .i64 a.kind, .string a.item, .int .i64 a.qty, .int .i64 a.level, .int .i64 a.undos]) (by simp [results, Tryz.results147, go_sem, d0, d1, d2, d3, d4, d5, d6, d7]) rfl ⟨by rw [HE.out]; rfl, HB.out⟩
def undoN (xs : List Int) (l : List OpV) (dev : Int) : Int := if cartB xs l = true ∧ inB dev 0 3 = true then undoTo dev l l.length else 0
def redoN (xs : List Int) (l : List OpV) (dev : Int) : Int := if cartB xs l = true ∧ inB dev 0 3 = true then redoTo xs dev.toNat l else 0
theorem last_undo (xs : List Int) (l : List OpV) (dev : Int) : lastOf dev (counted xs l) = undoN xs l dev := by
 unfold counted undoN
 by_cases hc : cartB xs l = true
 ·rw [if_pos hc, undo_last hc dev _ (Nat.le_refl _)]
  by_cases hd : inB dev 0 3 = true
  ·rw [if_pos ⟨hc, hd⟩]
  ·rw [if_neg (fun h => hd h.2), undo_nobody hc (fun h => hd (inB_iff.2 h)) _ (Nat.le_refl _)]
 ·rw [if_neg hc, if_neg (fun h => hc h.1)]
  rfl
theorem redoN_no {xs : List Int} {l : List OpV} {dev : Int} (h : cartB xs l = false ∨ inB dev 0 3 = false) : redoN xs l dev = 0 := by
 unfold redoN
 rw [if_neg (fun k => by rcases h with h | h <;> simp [h] at k)]
/-- A target's number; whether there is one. -/
def TgtPost (n : Int) (w : World) (e : Ending) (w' : World) : Prop := e = .returned (.tuple #[.int .i64 n, .bool (decide (0 < n))]) ∧ Below w.heap.size w w'
theorem tgt_no {n : Int} {w w' : World} (h : n = 0) (hb : Below w.heap.size w w') : TgtPost n w (.returned (.tuple #[.int .i64 0, .bool false])) w' := ⟨by rw [h]; rfl, hb⟩
theorem tgt_yes {n m : Int} {w w' : World} (h : n = m) (h0 : 0 < m) (hb : Below w.heap.size w w') : TgtPost n w (.returned (.tuple #[.int .i64 m, .bool true])) w' := ⟨by rw [h, decide_eq_true h0], hb⟩
theorem deviceOkW (dev : Int) (w : World) : Calls Tryz.prog 46 #[.int .i64 dev] w fun e w' => e = .returned (.bool (inB dev 0 3)) ∧ w = w' := by
 go_enter Tryz.func46, Tryz.ntmps46
 go_wp2_with fail
 refine (inRange _ _ _ _).mono ?_
 rintro e w' ⟨rfl, rfl⟩
 go_wp2
 go_ret
 exact ⟨rfl, rfl⟩

set_option maxHeartbeats 10000000 in
theorem implUndo (w : World) (B : Nat) (av ao : Option Addr) (nv cv no co : Nat) (xs : List Int) (l : List OpV) (dev : Int) (hx : Ints w B av nv xs) (h : Ops w B ao no l) (hB : B ≤ w.heap.size) (hv : nv ≤ 1048576) (hc : no ≤ co) (hc2 : Fits no co) : Calls Tryz.prog 98 #[.agg #[.slice av nv cv, .slice ao no co], .int .i64 dev] w (TgtPost (undoN xs l dev) w) := by
 have hn1048 : no ≤ 1048576 := hc2.1
 have hb0 : Below w.heap.size w (w.alloc (.cells #[.slice av nv cv, .slice ao no co] 32)) := (Below.refl _ w).alloc (Nat.le_refl _) _
 have HV := Lib.hid (hx.below hb0 hB)
 have HO := Lib.hid (h.below hb0 hB)
 have HB := Lib.hid hb0
 have HX := Lib.hid (boxAt (Below.refl _ (w.alloc (.cells #[.slice av nv cv, .slice ao no co] 32))))
 have hsz : w.heap.size < (w.alloc (.cells #[.slice av nv cv, .slice ao no co] 32)).heap.size := by show _ < (w.heap.push _).size; simp
 clear hx h hb0
 obtain ⟨c0, c1⟩ := pair_cells HX.out
 go_enter Tryz.func98, Tryz.ntmps98
 go_wp2_with fail
 generalize w.alloc (.cells #[.slice av nv cv, .slice ao no co] 32) = w0 at HV HO HB HX hsz c0 c1 ⊢
 refine (lastLive w0 B av ao nv cv no co xs l dev HV.out HO.out (by omega) hv hc hc2).mono ?_
 rintro e w1 ⟨rfl, hb⟩
 rw [last_undo]
 have HX1 := Lib.hid ((hb.block _ (Array.getElem?_eq_some_iff.1 HX.out).1).trans HX.out)
 have HV1 := Lib.hid (HV.out.below hb (by omega))
 have HO1 := Lib.hid (HO.out.below hb (by omega))
 have HB1 := Lib.hid (HB.out.trans (hb.mono HB.out.size))
 have hs1 := hb.size
 clear hb c0 c1 HX HV HO HB
 obtain ⟨c0, c1⟩ := pair_cells HX1.out
 go_wp2
 go_ret2
 exact ⟨rfl, HB1.out⟩
set_option maxHeartbeats 10000000 in
theorem implRedo (w : World) (B : Nat) (av ao : Option Addr) (nv cv no co : Nat) (xs : List Int) (l : List OpV) (dev : Int) (hx : Ints w B av nv xs) (h : Ops w B ao no l) (hB : B ≤ w.heap.size) (hv : nv ≤ 1048576) (hc : no ≤ co) (hc2 : Fits no co) : Calls Tryz.prog 100 #[.agg #[.slice av nv cv, .slice ao no co], .int .i64 dev] w (TgtPost (redoN xs l dev) w) := by
 have hn1048 : no ≤ 1048576 := hc2.1
 have hb0 : Below w.heap.size w (w.alloc (.cells #[.slice av nv cv, .slice ao no co] 32)) := (Below.refl _ w).alloc (Nat.le_refl _) _
 have HV := Lib.hid (hx.below hb0 hB)
 have HO := Lib.hid (h.below hb0 hB)
 have HB := Lib.hid hb0
 have HX := Lib.hid (boxAt (Below.refl _ (w.alloc (.cells #[.slice av nv cv, .slice ao no co] 32))))
 have hsz : w.heap.size < (w.alloc (.cells #[.slice av nv cv, .slice ao no co] 32)).heap.size := by show _ < (w.heap.push _).size; simp
 clear hx h hb0
 obtain ⟨c0, c1⟩ := pair_cells HX.out
 rcases hcb : cartB xs l with _ | _
 ·have HN := Lib.hid (redoN_no (dev := dev) (.inl hcb))
  have HC := Lib.hid hcb
  clear hcb
  go_enter Tryz.func100, Tryz.ntmps100
  go_wp2_with fail
  generalize w.alloc (.cells #[.slice av nv cv, .slice ao no co] 32) = w0 at HV HO HB HX hsz c0 c1 ⊢
  refine (implCartOk w0 B av ao nv cv no co xs l HV.out HO.out (by omega) hv hc hc2).mono ?_
  rintro e w1 ⟨rfl, hb⟩
  rw [HC.out]
  have HX1 := Lib.hid ((hb.block _ (Array.getElem?_eq_some_iff.1 HX.out).1).trans HX.out)
  have HV1 := Lib.hid (HV.out.below hb (by omega))
  have HO1 := Lib.hid (HO.out.below hb (by omega))
  have HB1 := Lib.hid (HB.out.trans (hb.mono HB.out.size))
  have hs1 := hb.size
  clear hb c0 c1 HX HV HO HB
  obtain ⟨c0, c1⟩ := pair_cells HX1.out
  go_wp2
  go_ret2
  exact tgt_no HN.out HB1.out
 have HC := Lib.hid hcb
 rcases hd : inB dev 0 3 with _ | _
 ·have HN := Lib.hid (redoN_no (xs := xs) (l := l) (.inr hd))
  have HD := Lib.hid hd
  clear hcb hd
  go_enter Tryz.func100, Tryz.ntmps100
  go_wp2_with fail
  generalize w.alloc (.cells #[.slice av nv cv, .slice ao no co] 32) = w0 at HV HO HB HX hsz c0 c1 ⊢
  refine (implCartOk w0 B av ao nv cv no co xs l HV.out HO.out (by omega) hv hc hc2).mono ?_
  rintro e w1 ⟨rfl, hb⟩
  rw [HC.out]
  have HX1 := Lib.hid ((hb.block _ (Array.getElem?_eq_some_iff.1 HX.out).1).trans HX.out)
  have HV1 := Lib.hid (HV.out.below hb (by omega))
  have HO1 := Lib.hid (HO.out.below hb (by omega))
  have HB1 := Lib.hid (HB.out.trans (hb.mono HB.out.size))
  have hs1 := hb.size
  clear hb c0 c1 HX HV HO HB
  obtain ⟨c0, c1⟩ := pair_cells HX1.out
  go_wp2_with fail
  refine (deviceOkW _ _).mono ?_
  rintro e w' ⟨rfl, rfl⟩
  rw [HD.out]
  go_wp2
  go_ret2
  exact tgt_no HN.out HB1.out
 have HD := Lib.hid hd
 obtain ⟨g1, g2⟩ := inB_iff.1 hd
 obtain ⟨d, rfl⟩ := Int.eq_ofNat_of_zero_le g1
 have hd4 : d < 4 := by omega
 have HU : Hid (undoN xs l (d : Int) = undoTo (d : Int) l l.length) := by show _ = _; unfold undoN; rw [if_pos ⟨hcb, hd⟩]
 have HR : Hid (redoN xs l (d : Int) = if undoTo (d : Int) l l.length + 1 ≤ xs.getD d 0 then undoTo (d : Int) l l.length + 1 else 0) := by show _ = _; unfold redoN; rw [if_pos ⟨hcb, hd⟩, Int.toNat_natCast]; rfl
 have HLe := Lib.hid (undo_le hcb d l.length (Nat.le_refl _))
 have hu1 := HLe.out.1
 have hu2 := HLe.out.2
 have HVe := Lib.hid (vec_at (cart_split hcb).1 hd4)
 have hnv : nv = 4 := HV.out.1.symm.trans HVe.out.2.2
 subst hnv
 clear hcb hd g1 g2
 go_enter Tryz.func100, Tryz.ntmps100
 go_wp2_with fail
 generalize w.alloc (.cells #[.slice av 4 cv, .slice ao no co] 32) = w0 at HV HO HB HX hsz c0 c1 ⊢
 refine (implCartOk w0 B av ao 4 cv no co xs l HV.out HO.out (by omega) hv hc hc2).mono ?_
 rintro e w1 ⟨rfl, hb⟩
 rw [HC.out]
 have HX1 := Lib.hid ((hb.block _ (Array.getElem?_eq_some_iff.1 HX.out).1).trans HX.out)
 have HV1 := Lib.hid (HV.out.below hb (by omega))
 have HO1 := Lib.hid (HO.out.below hb (by omega))
 have HB1 := Lib.hid (HB.out.trans (hb.mono HB.out.size))
 have hs1 := hb.size
 clear hb c0 c1 HX HV HO HB
 obtain ⟨c0, c1⟩ := pair_cells HX1.out
 go_wp2_with fail
 refine (deviceOkW _ _).mono ?_
 rintro e w' ⟨rfl, rfl⟩
 rw [HD.out]
 go_wp2_with fail
 refine (lastLive w1 B av ao 4 cv no co xs l (d : Int) HV1.out HO1.out (by omega) hv hc hc2).mono ?_
 rintro e w2 ⟨rfl, hb⟩
 rw [last_undo, HU.out]
 have HX2 := Lib.hid ((hb.block _ (Array.getElem?_eq_some_iff.1 HX1.out).1).trans HX1.out)
 have HV2 := Lib.hid (HV1.out.below hb (by omega))
 have HO2 := Lib.hid (HO1.out.below hb (by omega))
 have HB2 := Lib.hid (HB1.out.trans (hb.mono HB1.out.size))
 have hs2 := hb.size
 clear hb c0 c1 HX1 HV1 HO1 HB1
 obtain ⟨c0, c1⟩ := pair_cells HX2.out
 generalize undoTo (d : Int) l l.length = u at HR hu1 hu2 ⊢
 obtain ⟨bv, ov, rfl, hbv, cv'⟩ := HV2.out.2 d hd4
 have hle := HVe.out.2.1
 generalize xs.getD d 0 = y at HR cv' hle
 by_cases hy : u + 1 ≤ y
 ·have HE : Hid (redoN xs l (d : Int) = u + 1) := by show _ = _; rw [HR.out, if_pos hy]
  have hlt : ¬ y < u + 1 := by omega
  clear HR
  go_wp2
  go_ret2
  exact tgt_yes HE.out (by omega) HB2.out
 ·have HE : Hid (redoN xs l (d : Int) = 0) := by show _ = _; rw [HR.out, if_neg hy]
  have hlt : y < u + 1 := by omega
  clear HR hy
  go_wp2
  go_ret2
  exact tgt_no HE.out HB2.out
end Go.Proofs.YtjokbaaommicmaaGreatDoor
