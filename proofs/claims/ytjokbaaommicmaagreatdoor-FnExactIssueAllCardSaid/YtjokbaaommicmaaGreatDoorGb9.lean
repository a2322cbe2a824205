/- Walks and mathematics that several claims share, part 9. -/
import Derived.Test.YtjokbaaommicmaaGreatDoorRows
import Derived.WalkKit
import Derived.OwnWalkIn
import Derived.OrdersIn
import Derived.OrdersHeld
import Derived.RangeFuncCalls
import Derived.RangeFuncNested
import Derived.Deep.RegionHeld3
import Derived.Test.YtjokbaaommicmaaGreatDoorGbA
namespace Go.Proofs.YtjokbaaommicmaaGreatDoor
open Go.RowKit

theorem rows_wide {l n : Nat} {P : Program} {row : String} {args : Array Value} {w : World} {R : Value → World → Prop} (h : Rows P row args w R) : RowsIn (Fence.wide.inRound l) n P row args w R :=
 fun c cs _ => let ⟨v, w', r, s⟩ := h c cs; ⟨v, w', r, stepsIn_wide.2 s⟩
/-- What may not be left but in the plain way. -/
def OnlyNormal (Q : Exit → Act → World → Prop) : Exit → Act → World → Prop
 | .normal, a, w => Q .normal a w
 | _, _, _ => False
theorem onlyNormal_imp {Q : Exit → Act → World → Prop} : ∀ (e : Exit) (a : Act) (w : World), OnlyNormal Q e a w → Q e a w := fun e a w h => by
 cases e <;> first | exact h | exact (h : False).elim
theorem not_lets {Q : Exit → Act → World → Prop} : ¬ LetsOut (OnlyNormal Q) := fun ⟨_, _, h⟩ => h
theorem op_in_round {P : Program} {o : Oper} {l n : Nat} (hd : ∀ c, o.op ≠ .defer c) {a : Act} {w : World} {K : Act → World → Prop} {Q : Exit → Act → World → Prop} (h : o.wp P a w K (OnlyNormal Q)) : o.wpIn (Fence.wide.inRound l) n P a w K (OnlyNormal Q) := by
 refine ⟨fun _ _ => trivial, ?_⟩
 rw [Oper.semAt_plain _ _ _ hd]
 unfold Oper.wp at h
 generalize (execOp a.eval o).run P w = r at h ⊢
 cases r with
 | ok x w' =>
  cases x <;> dsimp only [Oper.upon, Oper.uponIn] at h ⊢
  case value => exact h
  case skip => exact h
  case defer => exact h
  case enter f args =>
   refine ⟨fun e => (by cases e), ((callsIn_wide.2 h).inRound l).mono ?_⟩
   intro e w'' he
   cases e <;> exact he
  case row row args => exact ⟨fun e => (by cases e), rows_wide h⟩
 | halt x w' => cases x <;> simp only [Oper.upon, Oper.uponIn] at h ⊢ <;> exact h
theorem any_in_round {P : Program} {md : Region.Mode} {ops : Array Oper} {l n : Nat} (hd : ∀ o ∈ ops.toList, ∀ c, o.op ≠ .defer c) {Q : Exit → Act → World → Prop} :
  ∀ (fuel : Nat) (listed : Array Bool) (a : Act) (w : World), wpAny P md ops (OnlyNormal Q) fuel listed a w → wpAnyIn (Fence.wide.inRound l) n P md ops (OnlyNormal Q) fuel listed a w
 | 0, _, _, _, h => h
 | fuel + 1, listed, a, w, h => ⟨h.1, fun i hi => by
   have h1 := h.2 i hi
   unfold wpOp at h1
   unfold wpOpIn
   cases ho : ops[i]? with
   | none =>
    rw [ho] at h1
    exact any_in_round hd fuel _ _ _ h1
   | some o =>
    rw [ho] at h1
    simp only at h1 ⊢
    have hmem : o ∈ ops.toList := by
     rw [← Array.getElem?_toList] at ho
     exact List.mem_of_getElem? ho
    by_cases hw : Region.wanted o (yielded ops a.tmps) = true
    ·rw [if_pos hw] at h1 ⊢
     rcases h1 with h1 | h1
     ·exact op_in_round (hd o hmem) (Oper.wp_mono (fun a' w' h' => any_in_round hd fuel _ a' w' h') h1)
     ·exact absurd h1.2 not_lets
    ·rw [if_neg hw] at h1 ⊢
     exact ⟨fun _ _ => trivial, any_in_round hd fuel _ _ _ h1⟩⟩
def plainOp (o : Oper) : Bool := match o.op with | .defer _ => false | _ => true
theorem plain_ops {ops : Array Oper} (h : ops.toList.all plainOp = true) : ∀ o ∈ ops.toList, ∀ c, o.op ≠ .defer c := fun o ho c hc => by
 have := List.all_eq_true.1 h o ho
 unfold plainOp at this
 rw [hc] at this
 cases this
/-- The beginning: the region is walked by the laws of one outside of a round. -/
theorem region_in_round {P : Program} {ops : Array Oper} {l n id : Nat} (hd : ops.toList.all plainOp = true) {Q : Exit → Act → World → Prop} {a : Act} {w : World} (hm : P.follows .mixedOrders = true) {S : World → Prop} (hS : S w.drew)
  (h : S w.drew → wpAnyH P .any ops (OnlyNormal Q) S ops.size (Array.replicate ops.size false) a w.drew) : (Code.region id ops true).wpIn (Fence.wide.inRound l) n P Q a w :=
 Code.wpIn_mono onlyNormal_imp (wpIn_region_any hm (any_in_round (plain_ops hd) _ _ _ _ (wpAny_of_held _ _ _ _ (h hS))))
end Go.Proofs.YtjokbaaommicmaaGreatDoor
