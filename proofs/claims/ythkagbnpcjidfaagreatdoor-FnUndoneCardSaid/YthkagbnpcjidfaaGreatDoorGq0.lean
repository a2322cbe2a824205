/- Walks and mathematics that several claims share, part 0. -/
import Derived.Test.YthkagbnpcjidfaaGreatDoorRows
import Derived.WalkKit
import Derived.Laws.AppendOwn
import Derived.OwnWalkIn
import Derived.OrdersIn
import Derived.OrdersHeld
import Derived.RangeFuncCalls
import Derived.RangeFuncNested
import Derived.Deep.RegionHeld3
import Derived.Test.YthkagbnpcjidfaaGreatDoorGqA
namespace Go.Proofs.YthkagbnpcjidfaaGreatDoor
open Go.RowKit
set_option linter.unusedVariables false
set_option linter.unusedSimpArgs false
def K3 (n : Nat) : Prop := n ≤ maxLen
theorem K3.sub {n : Nat} (h : K3 n) (c : Nat) : K3 (n - c) := Nat.le_trans (Nat.sub_le _ _) h
def Fits (n c : Nat) : Prop := n ≤ 1048576 ∧ K3 c
def bY (a : Option Addr) (n c : Nat) : Prop := n ≤ c ∧ K3 c ∧ (a = none → c = 0)
theorem cP : bY none 0 0 := ⟨Nat.le_refl _, Nat.zero_le _, fun _ => rfl⟩
theorem aDo (g : Addr) : bY (some g) 0 0 := ⟨Nat.le_refl _, Nat.zero_le _, fun _ => rfl⟩
theorem fY {w : World} {base size n c : Nat} {e : TypeId} {a : Option Addr} {xs : List Value} (h : w.ownsRow base e size (.slice a n c) n xs) : bY a n c := by
 rcases h.2 with ⟨e1, _⟩ | ⟨g, cap, aY, e1, _, _, hnc, N2, _⟩
 ·injection e1 with e2 e3 e4
  subst e2 e4; exact ⟨by omega, Nat.zero_le _, fun _ => rfl⟩
 ·injection e1 with e2 e3 e4
  subst e2 e4; exact ⟨hnc, N2, fun h => by cases h⟩
def cS (n lo hi : Int) : Bool := decide (lo ≤ n ∧ n ≤ hi)
theorem zX {n lo hi : Int} (h1 : lo ≤ n) (h2 : n ≤ hi) : cS n lo hi = true := decide_eq_true ⟨h1, h2⟩
theorem j7 {n lo hi : Int} (h : n < lo ∨ hi < n) : cS n lo hi = false := decide_eq_false (by omega)
theorem gM {n lo hi : Int} : cS n lo hi = true ↔ lo ≤ n ∧ n ≤ hi := decide_eq_true_iff
def chB (c : UInt8) : Bool := decide ((97 ≤ (c.toNat : Int) ∧ (c.toNat : Int) ≤ 122) ∨ (48 ≤ (c.toNat : Int) ∧ (c.toNat : Int) ≤ 57))
theorem aEU (c : UInt8) :
  (¬ (97 : Int) ≤ (c.toNat : Int) ∧ (c.toNat : Int) ≤ 122 ∧ ¬ (48 : Int) ≤ (c.toNat : Int) ∧ (c.toNat : Int) ≤ 57 ∧ chB c = false) ∨
  (¬ (97 : Int) ≤ (c.toNat : Int) ∧ (c.toNat : Int) ≤ 122 ∧ (48 : Int) ≤ (c.toNat : Int) ∧ (c.toNat : Int) ≤ 57 ∧ chB c = true) ∨
  (¬ (97 : Int) ≤ (c.toNat : Int) ∧ (c.toNat : Int) ≤ 122 ∧ (48 : Int) ≤ (c.toNat : Int) ∧ ¬ (c.toNat : Int) ≤ 57 ∧ chB c = false) ∨
  ((97 : Int) ≤ (c.toNat : Int) ∧ (c.toNat : Int) ≤ 122 ∧ (48 : Int) ≤ (c.toNat : Int) ∧ ¬ (c.toNat : Int) ≤ 57 ∧ chB c = true) ∨
  ((97 : Int) ≤ (c.toNat : Int) ∧ ¬ (c.toNat : Int) ≤ 122 ∧ (48 : Int) ≤ (c.toNat : Int) ∧ ¬ (c.toNat : Int) ≤ 57 ∧ chB c = false) := by
 simp only [chB, decide_eq_true_eq, decide_eq_false_iff_not]
 omega
def charsB (l : List UInt8) : Bool := l.all chB
def gK (s : ByteArray) : Bool := decide (1 ≤ s.size ∧ s.size ≤ 8) && charsB s.data.toList
theorem aB2 (s : ByteArray) (k : Nat) (h : k < s.size) : charsB (s.data.toList.take (k + 1)) = (charsB (s.data.toList.take k) && chB s[k]) := by
 have e : s.data.toList.take (k + 1) = s.data.toList.take k ++ [s[k]] := by
  rw [List.take_succ_eq_append_getElem (by simpa using h)]; rfl
 rw [e]
 simp [charsB]
theorem aDn (s : ByteArray) (k : Nat) (h : k < s.size) (hc : chB s[k] = false) : charsB s.data.toList = false := by
 unfold charsB
 rw [List.all_eq_false]
 exact ⟨s[k], by have : s[k] = s.data.toList[k]'(by simpa using h) := rfl
                 rw [this]; exact List.getElem_mem _, by simp [hc]⟩
theorem aEs {s : ByteArray} (h0 : 0 < s.size) (h8 : s.size ≤ 8) (h : charsB s.data.toList = true) : gK s = true := by
 unfold gK
 rw [h, decide_eq_true ⟨h0, h8⟩]
 rfl
theorem Q3 {s : ByteArray} (h : ¬ (1 ≤ s.size ∧ s.size ≤ 8)) : gK s = false := by
 unfold gK
 rw [decide_eq_false h]
 rfl
theorem aGm {s : ByteArray} (h : charsB s.data.toList = false) : gK s = false := by
 unfold gK
 rw [h, Bool.and_false]
def tN (kind : Int) : Bool := cS kind 1 5
def qB (kind qty : Int) : Bool := if kind = 1 ∨ kind = 2 then cS qty 1 999 else decide (qty = 0)
def lB (kind level : Int) : Bool := if kind = 1 then cS level 1 100 && decide (level % 2 = 1) else if kind = 3 then cS level 2 100 && decide (level % 2 = 0) else decide (level = 0)
def rT (dev seq stamp : Int) (item : ByteArray) (undos : Int) : Bool := cS dev 0 3 && (cS seq 1 40 && (cS stamp 1 100000 && (gK item && cS undos 0 50)))
def aAl (kind qty level : Int) : Bool := tN kind && (qB kind qty && lB kind level)
def dP (dev seq stamp kind : Int) (item : ByteArray) (qty level undos : Int) : Bool := rT dev seq stamp item undos && aAl kind qty level
theorem nC {dev seq stamp kind : Int} {item : ByteArray} {qty level undos : Int} (h : rT dev seq stamp item undos = false) : dP dev seq stamp kind item qty level undos = false := by
 unfold dP
 rw [h]
 rfl
theorem aEb {dev seq stamp kind : Int} {item : ByteArray} {qty level undos : Int} (h : tN kind = false) : dP dev seq stamp kind item qty level undos = false := by
 unfold dP aAl
 rw [h, Bool.false_and, Bool.and_false]
theorem zV {dev seq stamp kind : Int} {item : ByteArray} {qty level undos : Int} (h : qB kind qty = false) : dP dev seq stamp kind item qty level undos = false := by
 unfold dP aAl
 rw [h, Bool.false_and, Bool.and_false, Bool.and_false]
theorem sM {dev seq stamp kind : Int} {item : ByteArray} {qty level undos : Int} (h : rT dev seq stamp item undos = true) (hk : tN kind = true) (hq : qB kind qty = true) : dP dev seq stamp kind item qty level undos = lB kind level := by
 unfold dP aAl
 rw [h, hk, hq]
 rfl
theorem zI {kind : Int} (h : tN kind = true) : kind = 1 ∨ kind = 2 ∨ kind = 3 ∨ kind = 4 ∨ kind = 5 := by
 have := gM.1 h
 omega
theorem aEM {dev seq stamp : Int} {item : ByteArray} {undos : Int} (h1 : cS dev 0 3 = true) (h2 : cS seq 1 40 = true) (h3 : cS stamp 1 100000 = true) (h4 : gK item = true) (h5 : cS undos 0 50 = true) : rT dev seq stamp item undos = true := by
 unfold rT
 rw [h1, h2, h3, h4, h5]
 rfl
theorem pK {dev seq stamp : Int} {item : ByteArray} {undos : Int} (h : cS dev 0 3 = false ∨ cS seq 1 40 = false ∨ cS stamp 1 100000 = false ∨ gK item = false ∨ cS undos 0 50 = false) : rT dev seq stamp item undos = false := by
 unfold rT
 rcases h with h | h | h | h | h <;> rw [h] <;> simp
theorem aMh {level : Int} : lB 3 level = (cS level 1 100 && decide (level % 2 = 0)) := by
 have e : lB 3 level = (cS level 2 100 && decide (level % 2 = 0)) := rfl
 rw [e, Bool.eq_iff_iff, Bool.and_eq_true, Bool.and_eq_true, gM, gM, decide_eq_true_eq]
 omega
def IsRow (k : IntKind) (w : World) (a : Option Addr) (len cap : Nat) (zs : List Int) : Prop :=
 (a = none ∧ len = 0 ∧ cap = 0 ∧ zs = []) ∨
 ∃ x, a = some x ∧ len ≤ cap ∧ cap ≤ maxLen ∧ zs.length = cap ∧ (∀ i, i < zs.length → w.cell? (x.add i) = some (.int k (zs.getD i 0))) ∧ ∀ n ∈ zs, (Lit.int k n).wf = true
theorem add_plain {x : Addr} {w : World} {v : Value} (h : w.cell? (x.add 0) = some v) : ∃ b off, x = ⟨b, off, none⟩ := by
 obtain ⟨b, off, spot⟩ := x
 have hs := World.cell?_spot h
 have e0 : (⟨b, off, spot⟩ : Addr).add 0 = ⟨b, off, spot⟩ := by simp [Addr.add]
 rw [e0] at hs
 have : spot = none := hs
 subst this
 exact ⟨b, off, rfl⟩
theorem uB (b off i : Nat) : (⟨b, off, none⟩ : Addr).add i = ⟨b, off + i, none⟩ := by unfold Addr.add; split <;> simp_all
theorem aHY {l n : Nat} {P : Program} {row : String} {args : Array Value} {w : World} {R : Value → World → Prop} (h : Rows P row args w R) : RowsIn (Fence.wide.inRound l) n P row args w R :=
 fun c cs _ => let ⟨v, w', r, s⟩ := h c cs; ⟨v, w', r, stepsIn_wide.2 s⟩
def oY (Q : Exit → Act → World → Prop) : Exit → Act → World → Prop
 | .normal, a, w => Q .normal a w
 | _, _, _ => False
theorem aCs {Q : Exit → Act → World → Prop} : ∀ (e : Exit) (a : Act) (w : World), oY Q e a w → Q e a w := fun e a w h => by
 cases e <;> first | exact h | exact (h : False).elim
theorem aJo {Q : Exit → Act → World → Prop} : ¬ LetsOut (oY Q) := fun ⟨_, _, h⟩ => h
theorem aFL {P : Program} {o : Oper} {l n : Nat} (hd : ∀ c, o.op ≠ .defer c) {a : Act} {w : World} {K : Act → World → Prop} {Q : Exit → Act → World → Prop} (h : o.wp P a w K (oY Q)) : o.wpIn (Fence.wide.inRound l) n P a w K (oY Q) := by
 refine ⟨fun _ _ => trivial, ?_⟩
 rw [Oper.semAt_plain _ _ _ hd]
 unfold Oper.wp at h
 generalize (execOp a.eval o).run P w = r at h ⊢
 cases r with
 | ok x w' =>
  cases x <;> dsimp only [Oper.upon, Oper.uponIn] at h ⊢
  case value => exact h
  case skip => exact h
  case defer => exact h
  case enter f args =>
   refine ⟨fun e => (by cases e), ((callsIn_wide.2 h).inRound l).mono ?_⟩
   intro e w'' he
   cases e <;> exact he
  case row row args => exact ⟨fun e => (by cases e), aHY h⟩
 | halt x w' => cases x <;> simp only [Oper.upon, Oper.uponIn] at h ⊢ <;> exact h
theorem uA {P : Program} {md : Region.Mode} {ops : Array Oper} {l n : Nat} (hd : ∀ o ∈ ops.toList, ∀ c, o.op ≠ .defer c) {Q : Exit → Act → World → Prop} :
  ∀ (fuel : Nat) (listed : Array Bool) (a : Act) (w : World), wpAny P md ops (oY Q) fuel listed a w → wpAnyIn (Fence.wide.inRound l) n P md ops (oY Q) fuel listed a w
 | 0, _, _, _, h => h
 | fuel + 1, listed, a, w, h => ⟨h.1, fun i hi => by
   have h1 := h.2 i hi; unfold wpOp at h1; unfold wpOpIn; cases ho : ops[i]? with
   | none =>
    rw [ho] at h1; exact uA hd fuel _ _ _ h1
   | some o =>
    rw [ho] at h1; simp only at h1 ⊢
    have aGU : o ∈ ops.toList := by
     rw [← Array.getElem?_toList] at ho; exact List.mem_of_getElem? ho
    by_cases hw : Region.wanted o (yielded ops a.tmps) = true
    ·rw [if_pos hw] at h1 ⊢
     rcases h1 with h1 | h1
     ·exact aFL (hd o aGU) (Oper.wp_mono (fun a' w' h' => uA hd fuel _ a' w' h') h1)
     ·exact absurd h1.2 aJo
    ·rw [if_neg hw] at h1 ⊢
     exact ⟨fun _ _ => trivial, uA hd fuel _ _ _ h1⟩⟩
def aCr (o : Oper) : Bool := match o.op with | .defer _ => false | _ => true
theorem aH1 {ops : Array Oper} (h : ops.toList.all aCr = true) : ∀ o ∈ ops.toList, ∀ c, o.op ≠ .defer c := fun o ho c hc => by
 have := List.all_eq_true.1 h o ho
 unfold aCr at this
 rw [hc] at this
 cases this
theorem aBF {P : Program} {ops : Array Oper} {l n id : Nat} (hd : ops.toList.all aCr = true) {Q : Exit → Act → World → Prop} {a : Act} {w : World} (hm : P.follows .mixedOrders = true) {S : World → Prop} (hS : S w.drew)
  (h : S w.drew → wpAnyH P .any ops (oY Q) S ops.size (Array.replicate ops.size false) a w.drew) : (Code.region id ops true).wpIn (Fence.wide.inRound l) n P Q a w :=
 Code.wpIn_mono aCs (wpIn_region_any hm (uA (aH1 hd) _ _ _ _ (wpAny_of_held _ _ _ _ (h hS))))
end Go.Proofs.YthkagbnpcjidfaaGreatDoor
