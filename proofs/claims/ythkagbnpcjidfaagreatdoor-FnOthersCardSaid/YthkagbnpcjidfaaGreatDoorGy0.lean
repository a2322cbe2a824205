/- Walks and mathematics that several claims share, part 0. -/
import Derived.Test.YthkagbnpcjidfaaGreatDoorRows
import Derived.WalkKit
import Derived.Laws.AppendOwn
import Derived.OwnWalkIn
import Derived.OrdersIn
import Derived.OrdersHeld
import Derived.RangeFuncCalls
import Derived.RangeFuncNested
import Derived.Deep.RegionHeld3
import Derived.WalkLawsBesides
import Derived.Lib.Hide
import Derived.OpenShut
import Derived.RegionTactic
import Derived.Deep.QuietTactic
import Derived.BigQuiet
import Derived.Laws.Rows
import Derived.WalkSpells
import Derived.Maps.AppendAt
import Derived.Test.YthkagbnpcjidfaaGreatDoorGyA
namespace Go.Proofs.YthkagbnpcjidfaaGreatDoor
set_option maxRecDepth 100000
open Go.RowKit
set_option linter.unusedVariables false
set_option linter.unusedSimpArgs false

/-- A capacity that a slice may have. -/
def zR (n : Nat) : Prop := n ≤ maxLen
theorem zR.sub {n : Nat} (h : zR n) (c : Nat) : zR (n - c) := Nat.le_trans (Nat.sub_le _ _) h
/-- So many elements, and a capacity for them. -/
def Fits (n c : Nat) : Prop := n ≤ 1048576 ∧ zR c
/-- Of a slice of n elements with capacity c: the capacity bears them, and a nil one has none. -/
def bP (a : Option Addr) (n c : Nat) : Prop := n ≤ c ∧ zR c ∧ (a = none → c = 0)
theorem dA : bP none 0 0 := ⟨Nat.le_refl _, Nat.zero_le _, fun _ => rfl⟩
theorem aDn (g : Addr) : bP (some g) 0 0 := ⟨Nat.le_refl _, Nat.zero_le _, fun _ => rfl⟩
theorem hC {w : World} {base size n c : Nat} {e : TypeId} {a : Option Addr} {xs : List Value} (h : w.ownsRow base e size (.slice a n c) n xs) : bP a n c := by
 rcases h.2 with ⟨e1, _⟩ | ⟨g, cap, aX, e1, _, _, hnc, S3, _⟩
 ·injection e1 with e2 e3 e4
  subst e2 e4; exact ⟨by omega, Nat.zero_le _, fun _ => rfl⟩
 ·injection e1 with e2 e3 e4
  subst e2 e4; exact ⟨hnc, S3, fun h => by cases h⟩
def dD (n lo hi : Int) : Bool := decide (lo ≤ n ∧ n ≤ hi)
theorem tC {n lo hi : Int} (h1 : lo ≤ n) (h2 : n ≤ hi) : dD n lo hi = true := decide_eq_true ⟨h1, h2⟩
theorem p7 {n lo hi : Int} (h : n < lo ∨ hi < n) : dD n lo hi = false := decide_eq_false (by omega)
theorem gM {n lo hi : Int} : dD n lo hi = true ↔ lo ≤ n ∧ n ≤ hi := decide_eq_true_iff
/-- A letter a .. z, or a digit. -/
def chB (c : UInt8) : Bool := decide ((97 ≤ (c.toNat : Int) ∧ (c.toNat : Int) ≤ 122) ∨ (48 ≤ (c.toNat : Int) ∧ (c.toNat : Int) ≤ 57))
theorem aEH (c : UInt8) :
  (¬ (97 : Int) ≤ (c.toNat : Int) ∧ (c.toNat : Int) ≤ 122 ∧ ¬ (48 : Int) ≤ (c.toNat : Int) ∧ (c.toNat : Int) ≤ 57 ∧ chB c = false) ∨
  (¬ (97 : Int) ≤ (c.toNat : Int) ∧ (c.toNat : Int) ≤ 122 ∧ (48 : Int) ≤ (c.toNat : Int) ∧ (c.toNat : Int) ≤ 57 ∧ chB c = true) ∨
  (¬ (97 : Int) ≤ (c.toNat : Int) ∧ (c.toNat : Int) ≤ 122 ∧ (48 : Int) ≤ (c.toNat : Int) ∧ ¬ (c.toNat : Int) ≤ 57 ∧ chB c = false) ∨
  ((97 : Int) ≤ (c.toNat : Int) ∧ (c.toNat : Int) ≤ 122 ∧ (48 : Int) ≤ (c.toNat : Int) ∧ ¬ (c.toNat : Int) ≤ 57 ∧ chB c = true) ∨
  ((97 : Int) ≤ (c.toNat : Int) ∧ ¬ (c.toNat : Int) ≤ 122 ∧ (48 : Int) ≤ (c.toNat : Int) ∧ ¬ (c.toNat : Int) ≤ 57 ∧ chB c = false) := by
 simp only [chB, decide_eq_true_eq, decide_eq_false_iff_not]
 omega
def charsB (l : List UInt8) : Bool := l.all chB
def iE (s : ByteArray) : Bool := decide (1 ≤ s.size ∧ s.size ≤ 8) && charsB s.data.toList
theorem aBQ (s : ByteArray) (k : Nat) (h : k < s.size) : charsB (s.data.toList.take (k + 1)) = (charsB (s.data.toList.take k) && chB s[k]) := by
 have e : s.data.toList.take (k + 1) = s.data.toList.take k ++ [s[k]] := by
  rw [List.take_succ_eq_append_getElem (by simpa using h)]; rfl
 rw [e]
 simp [charsB]
theorem aDm (s : ByteArray) (k : Nat) (h : k < s.size) (hc : chB s[k] = false) : charsB s.data.toList = false := by
 unfold charsB
 rw [List.all_eq_false]
 exact ⟨s[k], by have : s[k] = s.data.toList[k]'(by simpa using h) := rfl
                 rw [this]; exact List.getElem_mem _, by simp [hc]⟩
theorem aEf {s : ByteArray} (h0 : 0 < s.size) (h8 : s.size ≤ 8) (h : charsB s.data.toList = true) : iE s = true := by
 unfold iE
 rw [h, decide_eq_true ⟨h0, h8⟩]
 rfl
theorem U7 {s : ByteArray} (h : ¬ (1 ≤ s.size ∧ s.size ≤ 8)) : iE s = false := by
 unfold iE
 rw [decide_eq_false h]
 rfl
theorem aFS {s : ByteArray} (h : charsB s.data.toList = false) : iE s = false := by
 unfold iE
 rw [h, Bool.and_false]
def wM (kind : Int) : Bool := dD kind 1 5
/-- What a Kind requires of Qty, and of Level. -/
def qB (kind qty : Int) : Bool := if kind = 1 ∨ kind = 2 then dD qty 1 999 else decide (qty = 0)
def lB (kind level : Int) : Bool := if kind = 1 then dD level 1 100 && decide (level % 2 = 1) else if kind = 3 then dD level 2 100 && decide (level % 2 = 0) else decide (level = 0)
def tE (dev seq stamp : Int) (item : ByteArray) (undos : Int) : Bool := dD dev 0 3 && (dD seq 1 40 && (dD stamp 1 100000 && (iE item && dD undos 0 50)))
def E6 (kind qty level : Int) : Bool := wM kind && (qB kind qty && lB kind level)
def dP (dev seq stamp kind : Int) (item : ByteArray) (qty level undos : Int) : Bool := tE dev seq stamp item undos && E6 kind qty level
theorem pD {dev seq stamp kind : Int} {item : ByteArray} {qty level undos : Int} (h : tE dev seq stamp item undos = false) : dP dev seq stamp kind item qty level undos = false := by
 unfold dP
 rw [h]
 rfl
theorem aDY {dev seq stamp kind : Int} {item : ByteArray} {qty level undos : Int} (h : wM kind = false) : dP dev seq stamp kind item qty level undos = false := by
 unfold dP E6
 rw [h, Bool.false_and, Bool.and_false]
theorem G6 {dev seq stamp kind : Int} {item : ByteArray} {qty level undos : Int} (h : qB kind qty = false) : dP dev seq stamp kind item qty level undos = false := by
 unfold dP E6
 rw [h, Bool.false_and, Bool.and_false, Bool.and_false]
theorem vK {dev seq stamp kind : Int} {item : ByteArray} {qty level undos : Int} (h : tE dev seq stamp item undos = true) (hk : wM kind = true) (hq : qB kind qty = true) : dP dev seq stamp kind item qty level undos = lB kind level := by
 unfold dP E6
 rw [h, hk, hq]
 rfl
theorem wL {kind : Int} (h : wM kind = true) : kind = 1 ∨ kind = 2 ∨ kind = 3 ∨ kind = 4 ∨ kind = 5 := by
 have := gM.1 h
 omega
theorem aEz {dev seq stamp : Int} {item : ByteArray} {undos : Int} (h1 : dD dev 0 3 = true) (h2 : dD seq 1 40 = true) (h3 : dD stamp 1 100000 = true) (h4 : iE item = true) (h5 : dD undos 0 50 = true) : tE dev seq stamp item undos = true := by
 unfold tE
 rw [h1, h2, h3, h4, h5]
 rfl
theorem rQ {dev seq stamp : Int} {item : ByteArray} {undos : Int} (h : dD dev 0 3 = false ∨ dD seq 1 40 = false ∨ dD stamp 1 100000 = false ∨ iE item = false ∨ dD undos 0 50 = false) : tE dev seq stamp item undos = false := by
 unfold tE
 rcases h with h | h | h | h | h <;> rw [h] <;> simp
/-- The spec asks a removal's Level in 1 .. 100, and even. -/
theorem aL3 {level : Int} : lB 3 level = (dD level 1 100 && decide (level % 2 = 0)) := by
 have e : lB 3 level = (dD level 2 100 && decide (level % 2 = 0)) := rfl
 rw [e, Bool.eq_iff_iff, Bool.and_eq_true, Bool.and_eq_true, gM, gM, decide_eq_true_eq]
 omega
/-- It is nil; or it leads to a row of 'cap' cells, the numbers 'zs' (the first 'len' are its elements), each fitting its kind. -/
def IsRow (k : IntKind) (w : World) (a : Option Addr) (len cap : Nat) (zs : List Int) : Prop :=
 (a = none ∧ len = 0 ∧ cap = 0 ∧ zs = []) ∨
 ∃ x, a = some x ∧ len ≤ cap ∧ cap ≤ maxLen ∧ zs.length = cap ∧ (∀ i, i < zs.length → w.cell? (x.add i) = some (.int k (zs.getD i 0))) ∧ ∀ n ∈ zs, (Lit.int k n).wf = true
theorem add_plain {x : Addr} {w : World} {v : Value} (h : w.cell? (x.add 0) = some v) : ∃ b off, x = ⟨b, off, none⟩ := by
 obtain ⟨b, off, spot⟩ := x
 have hs := World.cell?_spot h
 have e0 : (⟨b, off, spot⟩ : Addr).add 0 = ⟨b, off, spot⟩ := by simp [Addr.add]
 rw [e0] at hs
 have : spot = none := hs
 subst this
 exact ⟨b, off, rfl⟩
theorem uI (b off i : Nat) : (⟨b, off, none⟩ : Addr).add i = ⟨b, off + i, none⟩ := by unfold Addr.add; split <;> simp_all
theorem aHJ {l n : Nat} {P : Program} {row : String} {args : Array Value} {w : World} {R : Value → World → Prop} (h : Rows P row args w R) : RowsIn (Fence.wide.inRound l) n P row args w R :=
 fun c cs _ => let ⟨v, w', r, s⟩ := h c cs; ⟨v, w', r, stepsIn_wide.2 s⟩
/-- What may not be left but in the plain way. -/
def qX (Q : Exit → Act → World → Prop) : Exit → Act → World → Prop
 | .normal, a, w => Q .normal a w
 | _, _, _ => False
theorem aCk {Q : Exit → Act → World → Prop} : ∀ (e : Exit) (a : Act) (w : World), qX Q e a w → Q e a w := fun e a w h => by
 cases e <;> first | exact h | exact (h : False).elim
theorem aJg {Q : Exit → Act → World → Prop} : ¬ LetsOut (qX Q) := fun ⟨_, _, h⟩ => h
theorem aFg {P : Program} {o : Oper} {l n : Nat} (hd : ∀ c, o.op ≠ .defer c) {a : Act} {w : World} {K : Act → World → Prop} {Q : Exit → Act → World → Prop} (h : o.wp P a w K (qX Q)) : o.wpIn (Fence.wide.inRound l) n P a w K (qX Q) := by
 refine ⟨fun _ _ => trivial, ?_⟩
 rw [Oper.semAt_plain _ _ _ hd]
 unfold Oper.wp at h
 generalize (execOp a.eval o).run P w = r at h ⊢
 cases r with
 | ok x w' =>
  cases x <;> dsimp only [Oper.upon, Oper.uponIn] at h ⊢
  case value => exact h
  case skip => exact h
  case defer => exact h
  case enter f args =>
   refine ⟨fun e => (by cases e), ((callsIn_wide.2 h).inRound l).mono ?_⟩
   intro e w'' he
   cases e <;> exact he
  case row row args => exact ⟨fun e => (by cases e), aHJ h⟩
 | halt x w' => cases x <;> simp only [Oper.upon, Oper.uponIn] at h ⊢ <;> exact h
theorem xA {P : Program} {md : Region.Mode} {ops : Array Oper} {l n : Nat} (hd : ∀ o ∈ ops.toList, ∀ c, o.op ≠ .defer c) {Q : Exit → Act → World → Prop} :
  ∀ (fuel : Nat) (listed : Array Bool) (a : Act) (w : World), wpAny P md ops (qX Q) fuel listed a w → wpAnyIn (Fence.wide.inRound l) n P md ops (qX Q) fuel listed a w
 | 0, _, _, _, h => h
 | fuel + 1, listed, a, w, h => ⟨h.1, fun i hi => by
   have h1 := h.2 i hi; unfold wpOp at h1; unfold wpOpIn; cases ho : ops[i]? with
   | none =>
    rw [ho] at h1; exact xA hd fuel _ _ _ h1
   | some o =>
    rw [ho] at h1; simp only at h1 ⊢
    have yU : o ∈ ops.toList := by
     rw [← Array.getElem?_toList] at ho; exact List.mem_of_getElem? ho
    by_cases hw : Region.wanted o (yielded ops a.tmps) = true
    ·rw [if_pos hw] at h1 ⊢
     rcases h1 with h1 | h1
     ·exact aFg (hd o yU) (Oper.wp_mono (fun a' w' h' => xA hd fuel _ a' w' h') h1)
     ·exact absurd h1.2 aJg
    ·rw [if_neg hw] at h1 ⊢
     exact ⟨fun _ _ => trivial, xA hd fuel _ _ _ h1⟩⟩
def aCj (o : Oper) : Bool := match o.op with | .defer _ => false | _ => true
theorem aHN {ops : Array Oper} (h : ops.toList.all aCj = true) : ∀ o ∈ ops.toList, ∀ c, o.op ≠ .defer c := fun o ho c hc => by
 have := List.all_eq_true.1 h o ho
 unfold aCj at this
 rw [hc] at this
 cases this
/-- The beginning: the region is walked by the laws of one outside of a round. -/
theorem aBr {P : Program} {ops : Array Oper} {l n id : Nat} (hd : ops.toList.all aCj = true) {Q : Exit → Act → World → Prop} {a : Act} {w : World} (hm : P.follows .mixedOrders = true) {S : World → Prop} (hS : S w.drew)
  (h : S w.drew → wpAnyH P .any ops (qX Q) S ops.size (Array.replicate ops.size false) a w.drew) : (Code.region id ops true).wpIn (Fence.wide.inRound l) n P Q a w :=
 Code.wpIn_mono aCk (wpIn_region_any hm (xA (aHN hd) _ _ _ _ (wpAny_of_held _ _ _ _ (h hS))))
/-- A slice of bytes that came in: each of its cells holds a byte, below block B. -/
def Src (w : World) (B : Nat) (a : Option Addr) (len : Nat) : Prop :=
 len ≤ 1048576 ∧ ∀ i, i < len → ∃ b off z : Nat, a = some ⟨b, off, none⟩ ∧ b < B ∧ z < 256 ∧ w.cell? ⟨b, off + i, none⟩ = some (.int .u8 (z : Int))
/-- A reader at block g, from B on, over such a slice. -/
structure Rd (w : World) (B g : Nat) (a : Option Addr) (len cap : Nat) : Prop where
 own : B ≤ g
 cells : ∃ p : Nat, p ≤ len ∧ w.heap[g]? = some (.cells #[.slice a len cap, .int .i64 (p : Int)] 110 (0, 0))
 src : Src w B a len

theorem Src.kept {w w' : World} {B : Nat} {a : Option Addr} {len : Nat} (h : Src w B a len) (hk : ∀ k, k < B → w'.heap[k]? = w.heap[k]?) : Src w' B a len :=
 ⟨h.1, fun i hi => by
  obtain ⟨b, off, z, e, hb, hz, hc⟩ := h.2 i hi; exact ⟨b, off, z, e, hb, hz, (World.cell?_of_block (hk b hb)).trans hc⟩⟩
theorem Rd.lt {w : World} {B g : Nat} {a : Option Addr} {len cap : Nat} (h : Rd w B g a len cap) : g < w.heap.size := by
 obtain ⟨p, _, hg⟩ := h.cells
 exact (aRB hg).1
/-- The reader is as it was where its block and the blocks below B are. -/
theorem Rd.kept {w w' : World} {B g : Nat} {a : Option Addr} {len cap : Nat} (h : Rd w B g a len cap) (hk : ∀ k, k < B ∨ k = g → w'.heap[k]? = w.heap[k]?) : Rd w' B g a len cap :=
 ⟨h.own, by obtain ⟨p, hp, hg⟩ := h.cells; exact ⟨p, hp, (hk g (.inr rfl)).trans hg⟩, h.src.kept fun k pJ => hk k (.inl pJ)⟩
theorem Rd.grown {w w' : World} {B g : Nat} {a : Option Addr} {len cap : Nat} {row : Option Nat} (h : Rd w B g a len cap) (hg : w.grownBy w' row) (hr : ∀ k, row = some k → B ≤ k ∧ k ≠ g) : Rd w' B g a len cap :=
 h.kept fun k hk => hg.block k (by have := h.lt; have := h.own; omega) (fun e => by have := hr k e.symm; omega)

/-- What a call of the reader that yields a number leaves. -/
def Yields (m : Nat) (w : World) (B g : Nat) (a : Option Addr) (len cap : Nat) (e : Ending) (w' : World) : Prop :=
 ∃ v : Nat, v < m ∧ e = .returned (.int .i64 (v : Int)) ∧ w.grownBy w' (some g) ∧ Rd w' B g a len cap

theorem grownBy_set (w : World) (n : Nat) (g i : Nat) (v : Value) (m : Nat) : w.grownBy (((w.drewN n).setCell ⟨g, i, none⟩ v).drewN m) (some g) :=
 ⟨rfl, rfl, rfl, by show w.heap.size ≤ ((w.drewN n).setCell ⟨g, i, none⟩ v).heap.size; simp [World.setCell], fun k hk bH => by
  show ((w.drewN n).setCell ⟨g, i, none⟩ v).heap[k]? = _
  rw [heap_setCell_other _ _ _ _ (fun e => bH (by rw [e]))]
  rfl⟩

theorem aJh {w : World} {B g b off : Nat} {len cap p z n m : Nat} (h : Rd w B g (some ⟨b, off, none⟩) len cap) (hg : w.heap[g]? = some (.cells #[.slice (some ⟨b, off, none⟩) len cap, .int .i64 (p : Int)] 110 (0, 0))) (aK : p < len) (hz : z < 256) :
  Yields 256 w B g (some ⟨b, off, none⟩) len cap (.returned (.int .i64 (z : Int))) (((w.drewN n).setCell ⟨g, 1, none⟩ (.int .i64 ((p : Int) + 1))).drewN m) := by
 refine ⟨z, hz, rfl, grownBy_set w n g 1 _ m, h.own, ⟨p + 1, aK, ?_⟩, h.src.kept fun k hk => ?_⟩
 ·show ((w.drewN n).setCell ⟨g, 1, none⟩ (.int .i64 ((p : Int) + 1))).heap[g]? = _
  rw [heap_setCell_same (w.drewN n) g 1 _ _ _ hg]
  rfl
 ·show ((w.drewN n).setCell ⟨g, 1, none⟩ (.int .i64 ((p : Int) + 1))).heap[k]? = _
  rw [heap_setCell_other _ _ _ _ (by have := h.own; show k ≠ g; omega)]
  rfl

theorem next (w : World) (B g : Nat) (a : Option Addr) (len cap : Nat) (h : Rd w B g a len cap) :
  Calls Tryz.prog 106 #[.pointer (some ⟨g, 0, none⟩)] w (Yields 256 w B g a len cap) := by
 obtain ⟨p, hp, hg⟩ := h.cells
 have N7 : w.cell? ⟨g, 0, none⟩ = some (.slice a len cap) := aRD hg
 have hc1 : w.cell? ⟨g, 1, none⟩ = some (.int .i64 (p : Int)) := aRD hg
 have hf : w.frozen? ⟨g, 1, none⟩ = false := aRE hg
 by_cases aK : p < len
 ·obtain ⟨b, off, z, rfl, hb, hz, hc⟩ := h.src.2 p aK
  have hbg : b ≠ g := by have := h.own; omega
  have pE := h.src.1; have HG := aRA hg; have HH := aRA h; clear hg h
  go_enter Tryz.func106, Tryz.ntmps106
  go_wp2
  go_quiet (fail)
  go_wp2
  go_quiet (fail)
  go_wp2
  go_ret
  exact aJh HH.out HG.out aK hz
 ·clear hf
  go_enter Tryz.func106, Tryz.ntmps106
  go_wp2
  go_quiet (fail)
  go_wp2
  go_ret
  exact ⟨0, by omega, rfl, ⟨rfl, rfl, rfl, Nat.le_refl _, fun _ _ _ => rfl⟩, h.kept fun _ _ => rfl⟩

theorem Yields.trans {m n : Nat} {w w1 w2 : World} {B g : Nat} {a : Option Addr} {len cap : Nat} {e : Ending} (h : w.grownBy w1 (some g)) (h2 : Yields m w1 B g a len cap e w2) (hmn : m ≤ n) : Yields n w B g a len cap e w2 := by
 obtain ⟨v, hv, he, hg, hr⟩ := h2
 exact ⟨v, by omega, he, h.trans hg, hr⟩

theorem aKN (v n : Nat) : Ending.returned (.int .i64 ((v : Int) % (n : Int))) = .returned (.int .i64 ((v % n : Nat) : Int)) := by rw [Int.natCast_emod]

theorem below (w : World) (B g : Nat) (a : Option Addr) (len cap : Nat) (h : Rd w B g a len cap) (n : Nat) (hn : 0 < n) (D2 : n ≤ 65536) :
  Calls Tryz.prog 76 #[.pointer (some ⟨g, 0, none⟩), .int .i64 (n : Int)] w (Yields n w B g a len cap) := by
 by_cases h1 : n ≤ 1
 ·obtain rfl : n = 1 := by omega
  go_enter Tryz.func76, Tryz.ntmps76
  go_wp2
  go_ret
  exact ⟨0, by omega, rfl, World.grownBy.refl _ _, h⟩
 ·by_cases h2 : n ≤ 256
  ·go_enter Tryz.func76, Tryz.ntmps76
   go_wp2_with fail
   refine (next w B g a len cap h).mono ?_
   rintro e w1 ⟨v, hv, rfl, hg, hr⟩; have aI : (0 : Int) ≤ (v : Int) := by omega
   have aN : (0 : Int) < (n : Int) := by omega
   go_wp2
   go_ret
   exact ⟨v % n, Nat.mod_lt _ hn, aKN v n, hg, hr⟩
  ·go_enter Tryz.func76, Tryz.ntmps76
   go_wp2_with fail
   refine (next w B g a len cap h).mono ?_
   rintro e w1 ⟨v, hv, rfl, hg, hr⟩
   go_wp2_with fail
   refine (next _ B g a len cap hr).mono ?_
   rintro e w2 ⟨u, hu, rfl, fI, eK⟩; have aN : (0 : Int) < (n : Int) := by omega
   go_wp2
   go_ret
   refine ⟨(v * 256 + u) % n, Nat.mod_lt _ hn, ?_, hg.trans fI, eK⟩
   rw [← aKN]; simp
theorem nO (w : World) (B g : Nat) (a : Option Addr) (len cap : Nat) (h : Rd w B g a len cap) (x : Int) (h0 : 0 < x) (h1 : x ≤ 65536) :
  Calls Tryz.prog 76 #[.pointer (some ⟨g, 0, none⟩), .int .i64 x] w (Yields x.toNat w B g a len cap) := by
 obtain ⟨n, rfl⟩ := Int.eq_ofNat_of_zero_le (Int.le_of_lt h0)
 exact below w B g a len cap h n (by omega) (by omega)
theorem wD {w : World} {a : Option Addr} {len cap : Nat} {zs : List Int} (h : IsRow .u8 w a len cap zs) (hl : len ≤ 1048576) : Src w w.heap.size a len := by
 refine ⟨hl, fun i hi => ?_⟩
 rcases h with ⟨_, rfl, _⟩ | ⟨x, rfl, hlc, _, hz, hc, hw⟩
 ·omega
 ·have hci := hc i (by omega)
  obtain ⟨b, off, rfl⟩ := add_plain (hc 0 (by omega))
  have ea := uI b off i; have hb := bounds_u8 (hw (zs.getD i 0) (by rw [List.getD_eq_getElem?_getD, List.getElem?_eq_getElem (by omega)]; simp))
  rw [ea] at hci; refine ⟨b, off, (zs.getD i 0).toNat, rfl, block_lt_of_cell hci, by omega, ?_⟩
  rw [hci, Int.toNat_of_nonneg hb.1]

def aO1 (w : World) (B : Nat) (a : Option Addr) (len cap : Nat) (e : Ending) (w' : World) : Prop :=
 e = .returned (.pointer (some ⟨w.heap.size, 0, none⟩)) ∧ w.grownBy w' none ∧ Rd w' B w.heap.size a len cap
theorem aM2 (w : World) (B : Nat) (a : Option Addr) (len cap : Nat) (hB : B ≤ w.heap.size) (h : Src w B a len) :
  Calls Tryz.prog 38 #[.slice a len cap] w (aO1 w B a len cap) := by
 go_enter Tryz.func38, Tryz.ntmps38
 go_wp2
 go_ret
 exact ⟨rfl, World.grownBy_alloc _ _ _, hB, ⟨0, Nat.zero_le _, heap_alloc_new _ _⟩, h.kept fun k hk => Below.heap_alloc _ _ _ (by omega)⟩

/-- What a test of the reader leaves. -/
def aGO (w : World) (B g : Nat) (a : Option Addr) (len cap : Nat) (e : Ending) (w' : World) : Prop :=
 ∃ v : Bool, e = .returned (.bool v) ∧ w.grownBy w' (some g) ∧ Rd w' B g a len cap
theorem aCm (w : World) (B g : Nat) (a : Option Addr) (len cap : Nat) (h : Rd w B g a len cap) (x : Int) (h0 : 0 < x) (h1 : x ≤ 65536) :
  Calls Tryz.prog 48 #[.pointer (some ⟨g, 0, none⟩), .int .i64 x] w (aGO w B g a len cap) := by
 go_enter Tryz.func48, Tryz.ntmps48
 go_wp2_with fail
 refine (nO w B g a len cap h x h0 h1).mono ?_
 rintro e w1 ⟨v, hv, rfl, hg, hr⟩
 go_wp2
 go_ret
 exact ⟨_, rfl, hg, hr⟩

theorem aBR (a : Option Addr) (len cap : Nat) (h : len ≤ 1048576) (w : World) :
  Calls Tryz.prog 15 #[.slice a len cap] w fun e w' => e = .returned (.bool false) ∧ w = w' := by
 have hd : decide ((1048576 : Int) < (len : Int)) = false := decide_eq_false (by omega)
 go_enter Tryz.func15, Tryz.ntmps15
 go_wp2
 go_ret
 exact ⟨rfl, rfl⟩
theorem aAd (a : Option Addr) (len cap : Nat) (h : ¬ len ≤ 1048576) (w : World) :
  Calls Tryz.prog 15 #[.slice a len cap] w fun e w' => e = .returned (.bool true) ∧ w = w' := by
 have hd : decide ((1048576 : Int) < (len : Int)) = true := decide_eq_true (by omega)
 go_enter Tryz.func15, Tryz.ntmps15
 go_wp2
 go_ret
 exact ⟨rfl, rfl⟩

/-- What a call of the reader that yields some number of a kind leaves. -/
def O4 (k : IntKind) (w : World) (B g : Nat) (a : Option Addr) (len cap : Nat) (e : Ending) (w' : World) : Prop :=
 ∃ v : Int, e = .returned (.int k v) ∧ w.grownBy w' (some g) ∧ Rd w' B g a len cap

theorem aMH (w : World) (B g : Nat) (a : Option Addr) (len cap : Nat) (h : Rd w B g a len cap) :
  Calls Tryz.prog 121 #[.pointer (some ⟨g, 0, none⟩)] w (O4 .u64 w B g a len cap) := by
 have h0 := aRA h
 clear h
 go_enter Tryz.func121, Tryz.ntmps121
 go_wp2
 go_loopw [3, 4] (fun x i wr => ∃ (k : Nat) (v : Int), k ≤ 8 ∧ i = .int .i64 k ∧ x = .int .u64 v ∧ Hid (w.grownBy wr (some g)) ∧ Hid (Rd wr B g a len cap)) (fun _ i _ => 8 - (intOf i).toNat)
 case atStart => exact ⟨0, 0, by omega, rfl, rfl, World.grownBy.refl _ _, h0⟩
 case round =>
  obtain ⟨k, v, hk, rfl, rfl, HG, HR⟩ := hrel
  by_cases aK : k < 8
  ·go_wp2_with fail
   refine (next wr B g a len cap HR.out).mono ?_
   rintro e w1 ⟨z, hz, rfl, cF, dI⟩; have E4 := aRA (HG.out.trans cF); have gN := aRA dI; clear cF dI hz; go_wp2
   go_roundw
   case rel => exact ⟨k + 1, _, by omega, by go_num, rfl, E4, gN⟩
   case measure => simp [intOf]; omega
  ·go_wp2
   go_ret
   exact ⟨v, rfl, HG.out, HR.out⟩
theorem aMI (w : World) (B g : Nat) (a : Option Addr) (len cap : Nat) (h : Rd w B g a len cap) (lo up : Int) (h1 : 0 ≤ lo) (h2 : lo ≤ up) (h3 : up ≤ 10000000) :
  Calls Tryz.prog 91 #[.pointer (some ⟨g, 0, none⟩), .int .i64 lo, .int .i64 up] w (O4 .i64 w B g a len cap) := by
 go_enter Tryz.func91, Tryz.ntmps91
 go_wp2_with fail
 refine (nO w B g a len cap h 8 (by omega) (by omega)).mono ?_
 rintro e w1 ⟨v, hv, rfl, cF, dI⟩
 have hv8 : v < 8 := hv
 clear hv h
 by_cases h0 : v = 0
 ·subst h0
  go_wp2
  go_ret
  exact ⟨lo, rfl, cF, dI⟩
 ·have n0 : ((v : Int) == 0) = false := by simp; omega
  by_cases e1 : v = 1
  ·subst e1
   go_wp2
   go_ret
   exact ⟨up, rfl, cF, dI⟩
  ·have n1 : ((v : Int) == 1) = false := by simp; omega
   have aK : ¬ up < lo := by omega
   go_wp2_with fail
   refine (aMH w1 B g a len cap dI).mono ?_
   rintro e w2 ⟨x, rfl, fI, eK⟩; go_wp2
   go_ret
   exact ⟨_, rfl, cF.trans fI, eK⟩
def yS (lo hi : Int) : Obj := .cells #[.int .i64 (lo - 1), .int .i64 (hi + 1), .int .i64 (-9223372036854775808), .int .i64 9223372036854775807] 2
theorem aFh {w : World} {b i : Nat} {lo up : Int} (h : w.heap[b]? = some (yS lo up)) (hi : i < 4) : ∃ t : Int, w.cell? ⟨b, i, none⟩ = some (.int .i64 t) := by
 have e := cell_of_row w b i _ _ _ h
 match i, hi with
 | 0, _ => exact ⟨_, e⟩
 | 1, _ => exact ⟨_, e⟩
 | 2, _ => exact ⟨_, e⟩
 | 3, _ => exact ⟨_, e⟩

theorem M8 (w : World) (B g : Nat) (a : Option Addr) (len cap : Nat) (h : Rd w B g a len cap) (lo up : Int) (h1 : 0 ≤ lo) (h2 : lo ≤ up) (h3 : up ≤ 10000000) :
  Calls Tryz.prog 49 #[.pointer (some ⟨g, 0, none⟩), .int .i64 lo, .int .i64 up] w (O4 .i64 w B g a len cap) := by
 go_enter Tryz.func49, Tryz.ntmps49
 go_wp2_with fail
 refine (aCm w B g a len cap h 24 (by omega) (by omega)).mono ?_
 rintro e w1 ⟨v, rfl, cF, dI⟩
 clear h
 cases v
 ·go_wp2_with fail
  refine (aMI w1 B g a len cap dI lo up h1 h2 h3).mono ?_
  rintro e w2 ⟨x, rfl, fI, eK⟩; go_wp2
  go_ret
  exact ⟨x, rfl, cF.trans fI, eK⟩
 ·have mM := aRA (dI.grown (World.grownBy_alloc w1 (yS lo up) none) (fun k hk => by cases hk))
  have kA := aRA (cF.trans (World.grownBy_alloc w1 (yS lo up) (some g))); have lH : g < w1.heap.size := dI.lt; have hT : (w1.alloc (yS lo up)).heap[w1.heap.size]? = some (yS lo up) := heap_alloc_new _ _; clear dI cF
  go_wp2_with fail
  refine (nO _ B g a len cap mM.out 4 (by omega) (by omega)).mono ?_
  rintro e w2 ⟨i, hi, rfl, fI, eK⟩; have hi4 : i < 4 := hi; have hi5 : (i : Int) < 4 := by omega
  have qK : w2.heap[w1.heap.size]? = some (yS lo up) := (fI.block _ (by simp) (by simp; omega)).trans hT
  obtain ⟨t, hct⟩ := aFh qK hi4; have HG := aRA fI; have HR := aRA eK; clear hT qK fI eK hi; go_wp2
  go_ret
  exact ⟨t, rfl, kA.out.trans HG.out, HR.out⟩
/-- What a call of the reader that yields an item's text leaves. -/
def aGN (m : Nat) (w : World) (B g : Nat) (a : Option Addr) (len cap : Nat) (e : Ending) (w' : World) : Prop :=
 ∃ t : ByteArray, t.size ≤ m ∧ e = .returned (.string t) ∧ w.grownBy w' (some g) ∧ Rd w' B g a len cap
def vM : Obj := .cells #[.string ⟨#[116, 101, 97]⟩, .string ⟨#[109, 105, 108, 107]⟩, .string ⟨#[101, 103, 103]⟩, .string ⟨#[111, 97, 116]⟩] 9
theorem aEg {w : World} {b i : Nat} (h : w.heap[b]? = some vM) (hi : i < 4) : ∃ t : ByteArray, t.size ≤ 4 ∧ w.cell? ⟨b, i, none⟩ = some (.string t) := by
 have e := cell_of_row w b i _ _ _ h
 match i, hi with
 | 0, _ => exact ⟨_, by decide, e⟩
 | 1, _ => exact ⟨_, by decide, e⟩
 | 2, _ => exact ⟨_, by decide, e⟩
 | 3, _ => exact ⟨_, by decide, e⟩
theorem aMJ (w : World) (B g : Nat) (a : Option Addr) (len cap : Nat) (h : Rd w B g a len cap) :
  Calls Tryz.prog 77 #[.pointer (some ⟨g, 0, none⟩)] w (aGN 8 w B g a len cap) := by
 go_enter Tryz.func77, Tryz.ntmps77
 go_wp2_with fail
 refine (aCm w B g a len cap h 40 (by omega) (by omega)).mono ?_
 rintro e w1 ⟨v, rfl, cF, dI⟩
 clear h
 cases v
 ·have mM := aRA (dI.grown (World.grownBy_alloc w1 vM none) (fun k hk => by cases hk))
  have kA := aRA (cF.trans (World.grownBy_alloc w1 vM (some g))); have lH : g < w1.heap.size := dI.lt; have hT : (w1.alloc vM).heap[w1.heap.size]? = some vM := heap_alloc_new _ _; clear dI cF
  go_wp2_with fail
  refine (nO _ B g a len cap mM.out 4 (by omega) (by omega)).mono ?_
  rintro e w2 ⟨i, hi, rfl, fI, eK⟩; have hi4 : i < 4 := hi; have hi5 : (i : Int) < 4 := by omega
  have qK : w2.heap[w1.heap.size]? = some vM := (fI.block _ (by simp) (by simp; omega)).trans hT
  obtain ⟨t, ht, hct⟩ := aEg qK hi4; have HG := aRA fI; have HR := aRA eK; clear hT qK fI eK hi; go_wp2
  go_ret
  exact ⟨t, by omega, rfl, kA.out.trans HG.out, HR.out⟩
 ·go_wp2
  go_ret
  exact ⟨_, by decide, rfl, cF, dI⟩
end Go.Proofs.YthkagbnpcjidfaaGreatDoor
