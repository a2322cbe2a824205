/- Walks and mathematics that several claims share, part 0. -/
import Derived.Test.YthkagbnpcjidfaaGreatDoorRows
import Derived.WalkKit
import Derived.Laws.AppendOwn
import Derived.OwnWalkIn
import Derived.OrdersIn
import Derived.OrdersHeld
import Derived.RangeFuncCalls
import Derived.RangeFuncNested
import Derived.Deep.RegionHeld3
import Derived.Test.YthkagbnpcjidfaaGreatDoorGuA
namespace Go.Proofs.YthkagbnpcjidfaaGreatDoor
open Go.RowKit
set_option linter.unusedVariables false
set_option linter.unusedSimpArgs false
def D4 (n : Nat) : Prop := n ≤ maxLen
theorem D4.sub {n : Nat} (h : D4 n) (c : Nat) : D4 (n - c) := Nat.le_trans (Nat.sub_le _ _) h
def Fits (n c : Nat) : Prop := n ≤ 1048576 ∧ D4 c
def bM (a : Option Addr) (n c : Nat) : Prop := n ≤ c ∧ D4 c ∧ (a = none → c = 0)
theorem cN : bM none 0 0 := ⟨Nat.le_refl _, Nat.zero_le _, fun _ => rfl⟩
theorem aB1 (g : Addr) : bM (some g) 0 0 := ⟨Nat.le_refl _, Nat.zero_le _, fun _ => rfl⟩
theorem gA {w : World} {base size n c : Nat} {e : TypeId} {a : Option Addr} {xs : List Value} (h : w.ownsRow base e size (.slice a n c) n xs) : bM a n c := by
 rcases h.2 with ⟨e1, _⟩ | ⟨g, cap, aW, e1, _, _, hnc, F7, _⟩
 ·injection e1 with e2 e3 e4
  subst e2 e4; exact ⟨by omega, Nat.zero_le _, fun _ => rfl⟩
 ·injection e1 with e2 e3 e4
  subst e2 e4; exact ⟨hnc, F7, fun h => by cases h⟩
def cV (n lo hi : Int) : Bool := decide (lo ≤ n ∧ n ≤ hi)
theorem xU {n lo hi : Int} (h1 : lo ≤ n) (h2 : n ≤ hi) : cV n lo hi = true := decide_eq_true ⟨h1, h2⟩
theorem R6 {n lo hi : Int} (h : n < lo ∨ hi < n) : cV n lo hi = false := decide_eq_false (by omega)
theorem gJ {n lo hi : Int} : cV n lo hi = true ↔ lo ≤ n ∧ n ≤ hi := decide_eq_true_iff
def chB (c : UInt8) : Bool := decide ((97 ≤ (c.toNat : Int) ∧ (c.toNat : Int) ≤ 122) ∨ (48 ≤ (c.toNat : Int) ∧ (c.toNat : Int) ≤ 57))
theorem aDh (c : UInt8) :
  (¬ (97 : Int) ≤ (c.toNat : Int) ∧ (c.toNat : Int) ≤ 122 ∧ ¬ (48 : Int) ≤ (c.toNat : Int) ∧ (c.toNat : Int) ≤ 57 ∧ chB c = false) ∨
  (¬ (97 : Int) ≤ (c.toNat : Int) ∧ (c.toNat : Int) ≤ 122 ∧ (48 : Int) ≤ (c.toNat : Int) ∧ (c.toNat : Int) ≤ 57 ∧ chB c = true) ∨
  (¬ (97 : Int) ≤ (c.toNat : Int) ∧ (c.toNat : Int) ≤ 122 ∧ (48 : Int) ≤ (c.toNat : Int) ∧ ¬ (c.toNat : Int) ≤ 57 ∧ chB c = false) ∨
  ((97 : Int) ≤ (c.toNat : Int) ∧ (c.toNat : Int) ≤ 122 ∧ (48 : Int) ≤ (c.toNat : Int) ∧ ¬ (c.toNat : Int) ≤ 57 ∧ chB c = true) ∨
  ((97 : Int) ≤ (c.toNat : Int) ∧ ¬ (c.toNat : Int) ≤ 122 ∧ (48 : Int) ≤ (c.toNat : Int) ∧ ¬ (c.toNat : Int) ≤ 57 ∧ chB c = false) := by
 simp only [chB, decide_eq_true_eq, decide_eq_false_iff_not]
 omega
def charsB (l : List UInt8) : Bool := l.all chB
def fJ (s : ByteArray) : Bool := decide (1 ≤ s.size ∧ s.size ≤ 8) && charsB s.data.toList
theorem aAA (s : ByteArray) (k : Nat) (h : k < s.size) : charsB (s.data.toList.take (k + 1)) = (charsB (s.data.toList.take k) && chB s[k]) := by
 have e : s.data.toList.take (k + 1) = s.data.toList.take k ++ [s[k]] := by
  rw [List.take_succ_eq_append_getElem (by simpa using h)]; rfl
 rw [e]
 simp [charsB]
theorem aB0 (s : ByteArray) (k : Nat) (h : k < s.size) (hc : chB s[k] = false) : charsB s.data.toList = false := by
 unfold charsB
 rw [List.all_eq_false]
 exact ⟨s[k], by have : s[k] = s.data.toList[k]'(by simpa using h) := rfl
                 rw [this]; exact List.getElem_mem _, by simp [hc]⟩
theorem aCQ {s : ByteArray} (h0 : 0 < s.size) (h8 : s.size ≤ 8) (h : charsB s.data.toList = true) : fJ s = true := by
 unfold fJ
 rw [h, decide_eq_true ⟨h0, h8⟩]
 rfl
theorem J4 {s : ByteArray} (h : ¬ (1 ≤ s.size ∧ s.size ≤ 8)) : fJ s = false := by
 unfold fJ
 rw [decide_eq_false h]
 rfl
theorem aEH {s : ByteArray} (h : charsB s.data.toList = false) : fJ s = false := by
 unfold fJ
 rw [h, Bool.and_false]
def sP (kind : Int) : Bool := cV kind 1 5
def qB (kind qty : Int) : Bool := if kind = 1 ∨ kind = 2 then cV qty 1 999 else decide (qty = 0)
def lB (kind level : Int) : Bool := if kind = 1 then cV level 1 100 && decide (level % 2 = 1) else if kind = 3 then cV level 2 100 && decide (level % 2 = 0) else decide (level = 0)
def rA (dev seq stamp : Int) (item : ByteArray) (undos : Int) : Bool := cV dev 0 3 && (cV seq 1 40 && (cV stamp 1 100000 && (fJ item && cV undos 0 50)))
def H9 (kind qty level : Int) : Bool := sP kind && (qB kind qty && lB kind level)
def dM (dev seq stamp kind : Int) (item : ByteArray) (qty level undos : Int) : Bool := rA dev seq stamp item undos && H9 kind qty level
theorem mO {dev seq stamp kind : Int} {item : ByteArray} {qty level undos : Int} (h : rA dev seq stamp item undos = false) : dM dev seq stamp kind item qty level undos = false := by
 unfold dM
 rw [h]
 rfl
theorem aCx {dev seq stamp kind : Int} {item : ByteArray} {qty level undos : Int} (h : sP kind = false) : dM dev seq stamp kind item qty level undos = false := by
 unfold dM H9
 rw [h, Bool.false_and, Bool.and_false]
theorem xS {dev seq stamp kind : Int} {item : ByteArray} {qty level undos : Int} (h : qB kind qty = false) : dM dev seq stamp kind item qty level undos = false := by
 unfold dM H9
 rw [h, Bool.false_and, Bool.and_false, Bool.and_false]
theorem rR {dev seq stamp kind : Int} {item : ByteArray} {qty level undos : Int} (h : rA dev seq stamp item undos = true) (hk : sP kind = true) (hq : qB kind qty = true) : dM dev seq stamp kind item qty level undos = lB kind level := by
 unfold dM H9
 rw [h, hk, hq]
 rfl
theorem xE {kind : Int} (h : sP kind = true) : kind = 1 ∨ kind = 2 ∨ kind = 3 ∨ kind = 4 ∨ kind = 5 := by
 have := gJ.1 h
 omega
theorem aC8 {dev seq stamp : Int} {item : ByteArray} {undos : Int} (h1 : cV dev 0 3 = true) (h2 : cV seq 1 40 = true) (h3 : cV stamp 1 100000 = true) (h4 : fJ item = true) (h5 : cV undos 0 50 = true) : rA dev seq stamp item undos = true := by
 unfold rA
 rw [h1, h2, h3, h4, h5]
 rfl
theorem oO {dev seq stamp : Int} {item : ByteArray} {undos : Int} (h : cV dev 0 3 = false ∨ cV seq 1 40 = false ∨ cV stamp 1 100000 = false ∨ fJ item = false ∨ cV undos 0 50 = false) : rA dev seq stamp item undos = false := by
 unfold rA
 rcases h with h | h | h | h | h <;> rw [h] <;> simp
theorem aKl {level : Int} : lB 3 level = (cV level 1 100 && decide (level % 2 = 0)) := by
 have e : lB 3 level = (cV level 2 100 && decide (level % 2 = 0)) := rfl
 rw [e, Bool.eq_iff_iff, Bool.and_eq_true, Bool.and_eq_true, gJ, gJ, decide_eq_true_eq]
 omega
def IsRow (k : IntKind) (w : World) (a : Option Addr) (len cap : Nat) (zs : List Int) : Prop :=
 (a = none ∧ len = 0 ∧ cap = 0 ∧ zs = []) ∨
 ∃ x, a = some x ∧ len ≤ cap ∧ cap ≤ maxLen ∧ zs.length = cap ∧ (∀ i, i < zs.length → w.cell? (x.add i) = some (.int k (zs.getD i 0))) ∧ ∀ n ∈ zs, (Lit.int k n).wf = true
theorem add_plain {x : Addr} {w : World} {v : Value} (h : w.cell? (x.add 0) = some v) : ∃ b off, x = ⟨b, off, none⟩ := by
 obtain ⟨b, off, spot⟩ := x
 have hs := World.cell?_spot h
 have e0 : (⟨b, off, spot⟩ : Addr).add 0 = ⟨b, off, spot⟩ := by simp [Addr.add]
 rw [e0] at hs
 have : spot = none := hs
 subst this
 exact ⟨b, off, rfl⟩
theorem tD (b off i : Nat) : (⟨b, off, none⟩ : Addr).add i = ⟨b, off + i, none⟩ := by unfold Addr.add; split <;> simp_all
theorem aGj {l n : Nat} {P : Program} {row : String} {args : Array Value} {w : World} {R : Value → World → Prop} (h : Rows P row args w R) : RowsIn (Fence.wide.inRound l) n P row args w R :=
 fun c cs _ => let ⟨v, w', r, s⟩ := h c cs; ⟨v, w', r, stepsIn_wide.2 s⟩
def oC (Q : Exit → Act → World → Prop) : Exit → Act → World → Prop
 | .normal, a, w => Q .normal a w
 | _, _, _ => False
theorem aBd {Q : Exit → Act → World → Prop} : ∀ (e : Exit) (a : Act) (w : World), oC Q e a w → Q e a w := fun e a w h => by
 cases e <;> first | exact h | exact (h : False).elim
theorem aHR {Q : Exit → Act → World → Prop} : ¬ LetsOut (oC Q) := fun ⟨_, _, h⟩ => h
theorem aD9 {P : Program} {o : Oper} {l n : Nat} (hd : ∀ c, o.op ≠ .defer c) {a : Act} {w : World} {K : Act → World → Prop} {Q : Exit → Act → World → Prop} (h : o.wp P a w K (oC Q)) : o.wpIn (Fence.wide.inRound l) n P a w K (oC Q) := by
 refine ⟨fun _ _ => trivial, ?_⟩
 rw [Oper.semAt_plain _ _ _ hd]
 unfold Oper.wp at h
 generalize (execOp a.eval o).run P w = r at h ⊢
 cases r with
 | ok x w' =>
  cases x <;> dsimp only [Oper.upon, Oper.uponIn] at h ⊢
  case value => exact h
  case skip => exact h
  case defer => exact h
  case enter f args =>
   refine ⟨fun e => (by cases e), ((callsIn_wide.2 h).inRound l).mono ?_⟩
   intro e w'' he
   cases e <;> exact he
  case row row args => exact ⟨fun e => (by cases e), aGj h⟩
 | halt x w' => cases x <;> simp only [Oper.upon, Oper.uponIn] at h ⊢ <;> exact h
theorem tC {P : Program} {md : Region.Mode} {ops : Array Oper} {l n : Nat} (hd : ∀ o ∈ ops.toList, ∀ c, o.op ≠ .defer c) {Q : Exit → Act → World → Prop} :
  ∀ (fuel : Nat) (listed : Array Bool) (a : Act) (w : World), wpAny P md ops (oC Q) fuel listed a w → wpAnyIn (Fence.wide.inRound l) n P md ops (oC Q) fuel listed a w
 | 0, _, _, _, h => h
 | fuel + 1, listed, a, w, h => ⟨h.1, fun i hi => by
   have h1 := h.2 i hi; unfold wpOp at h1; unfold wpOpIn; cases ho : ops[i]? with
   | none =>
    rw [ho] at h1; exact tC hd fuel _ _ _ h1
   | some o =>
    rw [ho] at h1; simp only at h1 ⊢
    have uL : o ∈ ops.toList := by
     rw [← Array.getElem?_toList] at ho; exact List.mem_of_getElem? ho
    by_cases hw : Region.wanted o (yielded ops a.tmps) = true
    ·rw [if_pos hw] at h1 ⊢
     rcases h1 with h1 | h1
     ·exact aD9 (hd o uL) (Oper.wp_mono (fun a' w' h' => tC hd fuel _ a' w' h') h1)
     ·exact absurd h1.2 aHR
    ·rw [if_neg hw] at h1 ⊢
     exact ⟨fun _ _ => trivial, tC hd fuel _ _ _ h1⟩⟩
def aBc (o : Oper) : Bool := match o.op with | .defer _ => false | _ => true
theorem aGn {ops : Array Oper} (h : ops.toList.all aBc = true) : ∀ o ∈ ops.toList, ∀ c, o.op ≠ .defer c := fun o ho c hc => by
 have := List.all_eq_true.1 h o ho
 unfold aBc at this
 rw [hc] at this
 cases this
theorem aAf {P : Program} {ops : Array Oper} {l n id : Nat} (hd : ops.toList.all aBc = true) {Q : Exit → Act → World → Prop} {a : Act} {w : World} (hm : P.follows .mixedOrders = true) {S : World → Prop} (hS : S w.drew)
  (h : S w.drew → wpAnyH P .any ops (oC Q) S ops.size (Array.replicate ops.size false) a w.drew) : (Code.region id ops true).wpIn (Fence.wide.inRound l) n P Q a w :=
 Code.wpIn_mono aBd (wpIn_region_any hm (tC (aGn hd) _ _ _ _ (wpAny_of_held _ _ _ _ (h hS))))
end Go.Proofs.YthkagbnpcjidfaaGreatDoor
