/- Walks and mathematics that several claims share, part 42. -/
import Derived.Test.YtjokbaaommicmaaGreatDoorGb38
import Derived.Test.YtjokbaaommicmaaGreatDoorGb40
import Derived.Test.YtjokbaaommicmaaGreatDoorGb13
import Derived.Test.YtjokbaaommicmaaGreatDoorGb35
import Derived.Test.YtjokbaaommicmaaGreatDoorGb29
import Derived.Test.YtjokbaaommicmaaGreatDoorGbA
namespace Go.Proofs.YtjokbaaommicmaaGreatDoor
open Go.RowKit
set_option linter.unusedVariables false

def savedL (l : List OpV) (s : ByteArray) : Bool := decide ((bestTo plcB s l l.length).kind = 4)
def remOp (l : List OpV) (s : ByteArray) : OpV := ⟨0, 0, 0, 3, s, 0, levTo s l l.length + 1, 0⟩
/-- One item more is cleared. -/
def clrStep (l : List OpV) (d : Nat) (s : ByteArray) (q : List Int × List OpV × Int) : Option (List Int × List OpV × Int) :=
 if savedL l s = true then some q
 else if (nextOp q.1 q.2.1 d (remOp l s)).ok = true then some (putV q.1 d, putL q.2.1 d (nextOp q.1 q.2.1 d (remOp l s)), 0) else none
/-- The cart when the first k of some items are cleared; none: there was no room. -/
def clrTo (xs : List Int) (l : List OpV) (d : Nat) (L : List ByteArray) : Nat → Option (List Int × List OpV × Int)
 | 0 => some (xs, l, 2)
 | k + 1 => (clrTo xs l d L k).bind (clrStep l d (L.getD k ⟨#[]⟩))
theorem clrTo_none {xs : List Int} {l : List OpV} {d : Nat} {L : List ByteArray} {k : Nat} (h : clrTo xs l d L k = none) : ∀ j, clrTo xs l d L (k + j) = none
 | 0 => h
 | j + 1 => by
  show (clrTo xs l d L (k + j)).bind _ = none
  rw [clrTo_none h j]
  rfl
def clrN (xs : List Int) (l : List OpV) (d : Nat) : Int × List Int × List OpV :=
 match clrTo xs l d (namesTo l l.length) (namesTo l l.length).length with
 | none => (4, [], [])
 | some q => if q.2.2 = 0 then (0, q.1, q.2.1) else (2, [], [])
/-- Which operation has a device and a number. -/
def nameAt (l : List OpV) (dev seq : Int) : Nat := l.findIdx fun x => decide (x.dev = dev ∧ x.seq = seq)
def tglN (xs : List Int) (l : List OpV) (dev seq : Int) : Int × List Int × List OpV :=
 if nameAt l dev seq < l.length then (if (atOp l (nameAt l dev seq)).undos = 50 then (4, [], []) else (0, xs, togU l (nameAt l dev seq))) else (2, [], [])
def oneN (xs : List Int) (l : List OpV) (d : Nat) (kind : Int) (item : ByteArray) (qty : Int) : Int × List Int × List OpV :=
 let o := oneOf (levTo item l l.length) (savedL l item) kind item qty
 if o.2 = 0 then (if (nextOp xs l d o.1).ok = true then (0, putV xs d, putL l d (nextOp xs l d o.1)) else (4, [], [])) else (o.2, [], [])
def l6N (xs : List Int) (l : List OpV) (d : Nat) (kind : Int) (item : ByteArray) (qty dv sq : Int) : Int × List Int × List OpV :=
 if kind = 6 then clrN xs l d
 else if kind = 7 then tglN xs l (d : Int) (undoTo (d : Int) l l.length)
 else if kind = 8 then tglN xs l (d : Int) (redoTo xs d l)
 else if kind = 9 then tglN xs l dv sq
 else oneN xs l d kind item qty
def issueN (xs : List Int) (l : List OpV) (dev kind : Int) (item : ByteArray) (qty dv sq : Int) : Int × List Int × List OpV :=
 if cartB xs l = true ∧ inB dev 0 3 = true ∧ cmdB kind item qty dv sq = true then
  (if (l6N xs l dev.toNat kind item qty dv sq).1 = 0 then l6N xs l dev.toNat kind item qty dv sq else ((l6N xs l dev.toNat kind item qty dv sq).1, xs, l))
 else (1, [], [])
theorem name_at {xs : List Int} {l : List OpV} (hc : cartB xs l = true) {i : Nat} (hi : i < l.length) {dev seq : Int} (h1 : (atOp l i).dev = dev) (h2 : (atOp l i).seq = seq) : nameAt l dev seq = i := by
 have hlt : nameAt l dev seq < l.length := List.findIdx_lt_length_of_exists ⟨l[i], List.getElem_mem hi, by
  have e : atOp l i = l[i] := by unfold atOp; rw [List.getD_eq_getElem?_getD, List.getElem?_eq_getElem hi]; rfl
  rw [e] at h1 h2
  exact decide_eq_true ⟨h1, h2⟩⟩
 have hp := List.findIdx_getElem (w := hlt)
 have e : atOp l (nameAt l dev seq) = l[nameAt l dev seq] := by unfold atOp; rw [List.getD_eq_getElem?_getD, List.getElem?_eq_getElem hlt]; rfl
 have hp2 := of_decide_eq_true hp
 have hq : (atOp l (nameAt l dev seq)).dev = dev ∧ (atOp l (nameAt l dev seq)).seq = seq := by rw [e]; exact hp2
 exact inc_uniq (cart_inc hc) hlt hi (dev := dev) (seq := seq) hq ⟨h1, h2⟩
theorem name_none {l : List OpV} {dev seq : Int} (h : ∀ j, j < l.length → ¬ ((atOp l j).dev = dev ∧ (atOp l j).seq = seq)) : ¬ nameAt l dev seq < l.length := fun hlt => by
 have hp := of_decide_eq_true (List.findIdx_getElem (w := hlt))
 have e : atOp l (nameAt l dev seq) = l[nameAt l dev seq] := by unfold atOp; rw [List.getD_eq_getElem?_getD, List.getElem?_eq_getElem hlt]; rfl
 exact h _ hlt (by rw [e]; exact hp)
/-- What a command's walk leaves: the code, and when it is 0 a cart of the call's own. -/
def IssX (r : Int × List Int × List OpV) (w : World) (e : Ending) (w' : World) : Prop :=
 ∃ va nv vc oa no oc, e = .returned (.tuple #[.agg #[.slice va nv vc, .slice oa no oc], .int .i64 r.1]) ∧ Below w.heap.size w w' ∧ (r.1 = 0 → nv = r.2.1.length ∧ no = r.2.2.length ∧ Own w' w.heap.size w'.heap.size va nv r.2.1 ∧ OwnOps w' w.heap.size w'.heap.size oa no r.2.2 ∧ Caps va nv vc ∧ Caps oa no oc)
theorem IssN.toX {code : Int} {zs : List Int} {L : List OpV} {w w' : World} {e : Ending} (h : IssN code zs L w e w') : IssX (code, zs, L) w e w' := by
 obtain ⟨va, vc, oa, oc, e1, h1, h2, h3, h4, h5⟩ := h
 exact ⟨va, _, vc, oa, _, oc, e1, h3, fun _ => ⟨rfl, rfl, h1, h2, h4, h5⟩⟩
theorem TglP.toX {xs : List Int} {l : List OpV} {dev seq : Int} {w w' : World} {e : Ending} (h : TglP xs l dev seq w e w') (hc : cartB xs l = true) : IssX (tglN xs l dev seq) w e w' := by
 unfold tglN
 rcases h with ⟨h0, h⟩ | ⟨i, hi, ⟨h1, h2⟩, ⟨hu, h⟩ | ⟨hu, h⟩⟩
 ·rw [if_neg (name_none h0)]
  exact h.toX
 ·rw [name_at hc hi h1 h2, if_pos hi, if_pos hu]
  exact h.toX
 ·rw [name_at hc hi h1 h2, if_pos hi, if_neg hu]
  exact h.toX
end Go.Proofs.YtjokbaaommicmaaGreatDoor
