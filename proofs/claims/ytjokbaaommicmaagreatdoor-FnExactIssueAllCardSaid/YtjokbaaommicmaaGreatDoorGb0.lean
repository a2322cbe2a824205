/- Walks and mathematics that several claims share, part 0. -/
import Derived.WalkKit
import Derived.Test.YtjokbaaommicmaaGreatDoorGbA
namespace Go.Proofs.YtjokbaaommicmaaGreatDoor
open Go.RowKit

def inB (n lo hi : Int) : Bool := decide (lo ≤ n ∧ n ≤ hi)
theorem inB_yes {n lo hi : Int} (h1 : lo ≤ n) (h2 : n ≤ hi) : inB n lo hi = true := decide_eq_true ⟨h1, h2⟩
theorem inB_no {n lo hi : Int} (h : n < lo ∨ hi < n) : inB n lo hi = false := decide_eq_false (by omega)
theorem inB_iff {n lo hi : Int} : inB n lo hi = true ↔ lo ≤ n ∧ n ≤ hi := decide_eq_true_iff
/-- A letter a .. z, or a digit. -/
def chB (c : UInt8) : Bool := decide ((97 ≤ (c.toNat : Int) ∧ (c.toNat : Int) ≤ 122) ∨ (48 ≤ (c.toNat : Int) ∧ (c.toNat : Int) ≤ 57))
theorem ch_cases (c : UInt8) :
  (¬ (97 : Int) ≤ (c.toNat : Int) ∧ (c.toNat : Int) ≤ 122 ∧ ¬ (48 : Int) ≤ (c.toNat : Int) ∧ (c.toNat : Int) ≤ 57 ∧ chB c = false) ∨
  (¬ (97 : Int) ≤ (c.toNat : Int) ∧ (c.toNat : Int) ≤ 122 ∧ (48 : Int) ≤ (c.toNat : Int) ∧ (c.toNat : Int) ≤ 57 ∧ chB c = true) ∨
  (¬ (97 : Int) ≤ (c.toNat : Int) ∧ (c.toNat : Int) ≤ 122 ∧ (48 : Int) ≤ (c.toNat : Int) ∧ ¬ (c.toNat : Int) ≤ 57 ∧ chB c = false) ∨
  ((97 : Int) ≤ (c.toNat : Int) ∧ (c.toNat : Int) ≤ 122 ∧ (48 : Int) ≤ (c.toNat : Int) ∧ ¬ (c.toNat : Int) ≤ 57 ∧ chB c = true) ∨
  ((97 : Int) ≤ (c.toNat : Int) ∧ ¬ (c.toNat : Int) ≤ 122 ∧ (48 : Int) ≤ (c.toNat : Int) ∧ ¬ (c.toNat : Int) ≤ 57 ∧ chB c = false) := by
 simp only [chB, decide_eq_true_eq, decide_eq_false_iff_not]
 omega
def charsB (l : List UInt8) : Bool := l.all chB
def itemB (s : ByteArray) : Bool := decide (1 ≤ s.size ∧ s.size ≤ 8) && charsB s.data.toList
theorem chars_snoc (s : ByteArray) (k : Nat) (h : k < s.size) : charsB (s.data.toList.take (k + 1)) = (charsB (s.data.toList.take k) && chB s[k]) := by
 have e : s.data.toList.take (k + 1) = s.data.toList.take k ++ [s[k]] := by
  rw [List.take_succ_eq_append_getElem (by simpa using h)]; rfl
 rw [e]
 simp [charsB]
theorem chars_not (s : ByteArray) (k : Nat) (h : k < s.size) (hc : chB s[k] = false) : charsB s.data.toList = false := by
 unfold charsB
 rw [List.all_eq_false]
 exact ⟨s[k], by have : s[k] = s.data.toList[k]'(by simpa using h) := rfl
                 rw [this]; exact List.getElem_mem _, by simp [hc]⟩
theorem item_yes {s : ByteArray} (h0 : 0 < s.size) (h8 : s.size ≤ 8) (h : charsB s.data.toList = true) : itemB s = true := by
 unfold itemB
 rw [h, decide_eq_true ⟨h0, h8⟩]
 rfl
theorem item_len {s : ByteArray} (h : ¬ (1 ≤ s.size ∧ s.size ≤ 8)) : itemB s = false := by
 unfold itemB
 rw [decide_eq_false h]
 rfl
theorem item_no {s : ByteArray} (h : charsB s.data.toList = false) : itemB s = false := by
 unfold itemB
 rw [h, Bool.and_false]
def kindB (kind : Int) : Bool := inB kind 1 5
/-- What a Kind requires of Qty, and of Level. -/
def qB (kind qty : Int) : Bool := if kind = 1 ∨ kind = 2 then inB qty 1 999 else decide (qty = 0)
def lB (kind level : Int) : Bool := if kind = 1 then inB level 1 100 && decide (level % 2 = 1) else if kind = 3 then inB level 2 100 && decide (level % 2 = 0) else decide (level = 0)
def headB (dev seq stamp : Int) (item : ByteArray) (undos : Int) : Bool := inB dev 0 3 && (inB seq 1 40 && (inB stamp 1 100000 && (itemB item && inB undos 0 50)))
def tailB (kind qty level : Int) : Bool := kindB kind && (qB kind qty && lB kind level)
def opB (dev seq stamp kind : Int) (item : ByteArray) (qty level undos : Int) : Bool := headB dev seq stamp item undos && tailB kind qty level
theorem opB_head {dev seq stamp kind : Int} {item : ByteArray} {qty level undos : Int} (h : headB dev seq stamp item undos = false) : opB dev seq stamp kind item qty level undos = false := by
 unfold opB
 rw [h]
 rfl
theorem opB_kind {dev seq stamp kind : Int} {item : ByteArray} {qty level undos : Int} (h : kindB kind = false) : opB dev seq stamp kind item qty level undos = false := by
 unfold opB tailB
 rw [h, Bool.false_and, Bool.and_false]
theorem opB_qty {dev seq stamp kind : Int} {item : ByteArray} {qty level undos : Int} (h : qB kind qty = false) : opB dev seq stamp kind item qty level undos = false := by
 unfold opB tailB
 rw [h, Bool.false_and, Bool.and_false, Bool.and_false]
theorem opB_level {dev seq stamp kind : Int} {item : ByteArray} {qty level undos : Int} (h : headB dev seq stamp item undos = true) (hk : kindB kind = true) (hq : qB kind qty = true) : opB dev seq stamp kind item qty level undos = lB kind level := by
 unfold opB tailB
 rw [h, hk, hq]
 rfl
theorem kind_cases {kind : Int} (h : kindB kind = true) : kind = 1 ∨ kind = 2 ∨ kind = 3 ∨ kind = 4 ∨ kind = 5 := by
 have := inB_iff.1 h
 omega
theorem head_yes {dev seq stamp : Int} {item : ByteArray} {undos : Int} (h1 : inB dev 0 3 = true) (h2 : inB seq 1 40 = true) (h3 : inB stamp 1 100000 = true) (h4 : itemB item = true) (h5 : inB undos 0 50 = true) : headB dev seq stamp item undos = true := by
 unfold headB
 rw [h1, h2, h3, h4, h5]
 rfl
theorem head_no {dev seq stamp : Int} {item : ByteArray} {undos : Int} (h : inB dev 0 3 = false ∨ inB seq 1 40 = false ∨ inB stamp 1 100000 = false ∨ itemB item = false ∨ inB undos 0 50 = false) : headB dev seq stamp item undos = false := by
 unfold headB
 rcases h with h | h | h | h | h <;> rw [h] <;> simp
/-- The spec asks a removal's Level in 1 .. 100, and even. -/
theorem l3_even {level : Int} : lB 3 level = (inB level 1 100 && decide (level % 2 = 0)) := by
 have e : lB 3 level = (inB level 2 100 && decide (level % 2 = 0)) := rfl
 rw [e, Bool.eq_iff_iff, Bool.and_eq_true, Bool.and_eq_true, inB_iff, inB_iff, decide_eq_true_eq]
 omega
/-- It is nil; or it leads to a row of 'cap' cells, the numbers 'zs' (the first 'len' are its elements), each fitting its kind. -/
def IsRow (k : IntKind) (w : World) (a : Option Addr) (len cap : Nat) (zs : List Int) : Prop :=
 (a = none ∧ len = 0 ∧ cap = 0 ∧ zs = []) ∨
 ∃ x, a = some x ∧ len ≤ cap ∧ cap ≤ maxLen ∧ zs.length = cap ∧ (∀ i, i < zs.length → w.cell? (x.add i) = some (.int k (zs.getD i 0))) ∧ ∀ n ∈ zs, (Lit.int k n).wf = true
theorem add_plain {x : Addr} {w : World} {v : Value} (h : w.cell? (x.add 0) = some v) : ∃ b off, x = ⟨b, off, none⟩ := by
 obtain ⟨b, off, spot⟩ := x
 have hs := World.cell?_spot h
 have e0 : (⟨b, off, spot⟩ : Addr).add 0 = ⟨b, off, spot⟩ := by simp [Addr.add]
 rw [e0] at hs
 have : spot = none := hs
 subst this
 exact ⟨b, off, rfl⟩
theorem add_at (b off i : Nat) : (⟨b, off, none⟩ : Addr).add i = ⟨b, off + i, none⟩ := by unfold Addr.add; split <;> simp_all
end Go.Proofs.YtjokbaaommicmaaGreatDoor
