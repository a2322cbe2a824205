/- Walks and mathematics that several claims share, part 16. -/
import Derived.Test.YtgagchlcafdiaaaGreatGb9
import Derived.Test.YtgagchlcafdiaaaGreatGb2
import Derived.Test.YtgagchlcafdiaaaGreatGb7
import Derived.RangeFuncNested
import Derived.RangeFuncBound
import Derived.RangeFuncCalls
import Derived.RangeFuncLeaves
import Derived.Shelf.Abstract
import Derived.Shelf.RegionOpen
import Derived.OwnWalkIn
import Derived.TacticsInMore
import Derived.LoopNIn
import Derived.LoopIn
import Derived.Lib.MinMax
import Derived.Deep.Cut
import Derived.Test.YtgagchlcafdiaaaGreatGbA
namespace Go.Proofs.YtgagchlcafdiaaaGreat
set_option maxRecDepth 100000
open Go.RowKit Go.Shelf
attribute [local go_sem] Oper.semAt_some

theorem below_grown {w w' : World} (h : Below w.heap.size w w') : w.grownBy w' none := ⟨h.os, h.tape, h.output, h.size, fun k hk _ => h.block k hk⟩

end Go.Proofs.YtgagchlcafdiaaaGreat

namespace Go.Proofs.YtgagchlcafdiaaaGreat
set_option maxRecDepth 100000
open Go.RowKit Go.Shelf
attribute [local go_sem] Oper.semAt_some

/-- The operations that count. -/
def counted (xs : List Int) (l : List OpV) : List OpV := if cartB xs l = true then liveTo l l.length else []
end Go.Proofs.YtgagchlcafdiaaaGreat

namespace Go.Proofs.YtgagchlcafdiaaaGreat
set_option maxRecDepth 100000
open Go.RowKit
set_option linter.unusedVariables false
set_option linter.unusedSimpArgs false

set_option maxHeartbeats 10000000 in
theorem l6Undo (w : World) (B : Nat) (av ao : Option Addr) (nv cv no co : Nat) (xs : List Int) (l : List OpV) (dev : Int) (h : Ops w B ao no l) (hB : B ≤ w.heap.size) (hn : no ≤ 1048576) (hc : cartB xs l = true) : Calls Tryz.prog 109 #[.agg #[.slice av nv cv, .slice ao no co], .int .i64 dev] w fun e w' => e = .returned (.int .i64 (undoTo dev l l.length)) ∧ Below w.heap.size w w' := by
 have hb0 : Below w.heap.size w (w.alloc (.cells #[.slice av nv cv, .slice ao no co] 49)) := (Below.refl _ w).alloc (Nat.le_refl _) _
 have HO := Lib.hid (h.below hb0 hB)
 have HB := Lib.hid hb0
 have HX := Lib.hid (boxAt (Below.refl _ (w.alloc (.cells #[.slice av nv cv, .slice ao no co] 49))))
 have HL := Lib.hid h.1
 have hsz : w.heap.size < (w.alloc (.cells #[.slice av nv cv, .slice ao no co] 49)).heap.size := by show _ < (w.heap.push _).size; simp
 have HC : Hid (∀ k, k < no → 0 ≤ (l.getD k OpV.zero).undos) := fun k hk => by
  obtain ⟨_, _, _, _, _, hok, _, _⟩ := cart_atV hc (i := k) (by rw [h.1]; exact hk)
  exact (undos_of hok).1
 clear h hb0 hc
 go_enter Tryz.func109, Tryz.ntmps109
 go_wp2_with fail
 generalize w.alloc (.cells #[.slice av nv cv, .slice ao no co] 49) = w0 at HO HB HX hsz ⊢
 go_wp2
 go_loopw [5, 6] (fun n i wr => ∃ k : Nat, k ≤ no ∧ i = .int .i64 k ∧ n = .int .i64 (undoTo dev l k) ∧ Hid (Below w0.heap.size w0 wr)) (fun _ i _ => no - (intOf i).toNat)
 case atStart => exact ⟨0, Nat.zero_le _, rfl, rfl, Below.refl _ _⟩
 case round =>
  obtain ⟨k, hk, rfl, rfl, HBr⟩ := hrel
  obtain ⟨c0, c1⟩ := pair_cells ((HBr.out.block _ hsz).trans HX.out)
  by_cases hlt : k < no
  rotate_left
  ·obtain rfl : k = no := by omega
   go_wp2
   go_ret
   exact ⟨by rw [HL.out]; rfl, HB.out.trans (HBr.out.mono HB.out.size)⟩
  obtain ⟨b, off, rfl, hb, ho⟩ := HO.out.2 k hlt
  obtain ⟨d0, d1, d2, d3, d4, d5, d6, d7⟩ := ho.kept (HBr.out.block b (by omega))
  have hu0 := HC.out k hlt
  have HU : Hid (undoTo dev l (k + 1) = if (l.getD k OpV.zero).dev = dev ∧ (l.getD k OpV.zero).undos % 2 = 0 then (l.getD k OpV.zero).seq else undoTo dev l k) := rfl
  have HO1 := Lib.hid ho
  clear ho
  generalize l.getD k OpV.zero = x at HU hu0 d0 d1 d2 d3 d4 d5 d6 d7 HO1
  by_cases hd : x.dev = dev
  rotate_left
  ·have hbq : (x.dev == dev) = false := by rw [beq_eq_false_iff_ne]; exact hd
   have HE : Hid (undoTo dev l (k + 1) = undoTo dev l k) := by show _ = _; rw [HU.out, if_neg (fun h => hd h.1)]
   clear hd HU
   go_wp2
   go_roundw
   case rel => exact ⟨k + 1, by omega, by go_num, by rw [HE.out], HBr⟩
   case measure => simp [intOf]; omega
  have hbq : (x.dev == dev) = true := by rw [hd]; exact beq_self_eq_true _
  have HD := Lib.hid hd
  clear hd
  go_wp2_with fail
  refine (l3Live x.dev x.seq x.stamp x.kind x.item x.qty x.level x.undos _ hu0).mono ?_
  rintro e w2 ⟨rfl, hb2⟩
  have HB2 := Lib.hid (HBr.out.trans (hb2.mono HBr.out.size))
  clear hb2 c0 c1 d0 d1 d2 d3 d4 d5 d6 d7
  obtain ⟨c0, c1⟩ := pair_cells ((HB2.out.block _ hsz).trans HX.out)
  obtain ⟨d0, d1, d2, d3, d4, d5, d6, d7⟩ := HO1.out.kept (HB2.out.block b (by omega))
  by_cases hu : x.undos % 2 = 0
  ·have hq : decide (x.undos % 2 = 0) = true := decide_eq_true hu
   have HE : Hid (undoTo dev l (k + 1) = x.seq) := by show _ = _; rw [HU.out, if_pos ⟨HD.out, hu⟩]
   rw [hq]
   clear hu hq HU
   go_wp2
   go_roundw
   case rel => exact ⟨k + 1, by omega, by go_num, by rw [HE.out], HB2⟩
   case measure => simp [intOf]; omega
  ·have hq : decide (x.undos % 2 = 0) = false := decide_eq_false hu
   have HE : Hid (undoTo dev l (k + 1) = undoTo dev l k) := by show _ = _; rw [HU.out, if_neg (fun h => hu h.2)]
   rw [hq]
   clear hu hq HU
   go_wp2
   go_roundw
   case rel => exact ⟨k + 1, by omega, by go_num, by rw [HE.out], HB2⟩
   case measure => simp [intOf]; omega

/-- What looking for a device's operation by its number answers. -/
def AtPost (l : List OpV) (dev seq : Int) (w : World) (e : Ending) (w' : World) : Prop :=
 w = w' ∧ ((∃ i : Nat, i < l.length ∧ (atOp l i).dev = dev ∧ (atOp l i).seq = seq ∧ e = .returned (.int .i64 (i : Int))) ∨ ((∀ i, i < l.length → ¬ ((atOp l i).dev = dev ∧ (atOp l i).seq = seq)) ∧ e = .returned (.int .i64 (-1))))
set_option maxHeartbeats 10000000 in
theorem l4AtT (w : World) (B : Nat) (ao : Option Addr) (no co : Nat) (l : List OpV) (dev seq : Int) (h : Ops w B ao no l) (hn : no ≤ 1048576) : Calls Tryz.prog 105 #[.slice ao no co, .int .i64 dev, .int .i64 seq] w (AtPost l dev seq w) := by
 have HO := Lib.hid h
 have HL := Lib.hid h.1
 clear h
 go_enter Tryz.func105, Tryz.ntmps105
 go_wp2
 go_loop [7] (fun i => ∃ k : Nat, k ≤ no ∧ i = .int .i64 k ∧ Hid (∀ j, j < k → ¬ ((atOp l j).dev = dev ∧ (atOp l j).seq = seq))) (fun i => no - (intOf i).toNat)
 case atStart => exact ⟨0, Nat.zero_le _, rfl, fun j hj => by omega⟩
 case round =>
  obtain ⟨k, hk, rfl, HN⟩ := hrel
  by_cases hlt : k < no
  rotate_left
  ·obtain rfl : k = no := by omega
   go_wp2
   go_ret
   exact ⟨rfl, .inr ⟨by rw [HL.out]; exact HN.out, rfl⟩⟩
  obtain ⟨b, off, rfl, hb, ho⟩ := HO.out.2 k hlt
  obtain ⟨d0, d1, _⟩ := ho
  have HA : Hid (l.getD k OpV.zero = atOp l k) := rfl
  rw [HA.out] at d0 d1
  by_cases hd : (atOp l k).dev = dev ∧ (atOp l k).seq = seq
  ·have HD := Lib.hid hd
   have b1 : ((atOp l k).dev == dev) = true := by rw [hd.1]; exact beq_self_eq_true _
   have b2 : ((atOp l k).seq == seq) = true := by rw [hd.2]; exact beq_self_eq_true _
   clear hd
   generalize hx : atOp l k = x at b1 b2 d0 d1
   have HXe := Lib.hid hx
   clear hx
   go_wp2
   go_ret
   exact ⟨rfl, .inl ⟨k, by rw [HL.out]; exact hlt, HD.out.1, HD.out.2, rfl⟩⟩
  ·have HN2 : Hid (∀ j, j < k + 1 → ¬ ((atOp l j).dev = dev ∧ (atOp l j).seq = seq)) := fun j hj => by
    rcases Nat.lt_or_ge j k with h1 | h1
    ·exact HN.out j h1
    ·obtain rfl : j = k := by omega
     exact hd
   by_cases h1 : (atOp l k).dev = dev
   ·have h2 : ¬ (atOp l k).seq = seq := fun h => hd ⟨h1, h⟩
    have b1 : ((atOp l k).dev == dev) = true := by rw [h1]; exact beq_self_eq_true _
    have b2 : ((atOp l k).seq == seq) = false := by rw [beq_eq_false_iff_ne]; exact h2
    clear hd h1 h2
    generalize atOp l k = x at b1 b2 d0 d1
    go_wp2
    go_round
    case rel => exact ⟨k + 1, by omega, by go_num, HN2⟩
    case measure => simp [intOf]; omega
   ·have b1 : ((atOp l k).dev == dev) = false := by rw [beq_eq_false_iff_ne]; exact h1
    clear hd h1
    generalize atOp l k = x at b1 d0 d1
    go_wp2
    go_round
    case rel => exact ⟨k + 1, by omega, by go_num, HN2⟩
    case measure => simp [intOf]; omega

/-- The number behind a device's last live operation, 0 where there is no such operation. -/
def redoTo (xs : List Int) (d : Nat) (l : List OpV) : Int := if undoTo (d : Int) l l.length + 1 ≤ xs.getD d 0 then undoTo (d : Int) l l.length + 1 else 0
set_option maxHeartbeats 10000000 in
theorem l6Redo (w : World) (B : Nat) (av ao : Option Addr) (nv cv no co : Nat) (xs : List Int) (l : List OpV) (d : Nat) (hd : d < 4) (h : Ops w B ao no l) (hB : B ≤ w.heap.size) (hn : no ≤ 1048576) (hc : cartB xs l = true) : Calls Tryz.prog 110 #[.agg #[.slice av nv cv, .slice ao no co], .int .i64 (d : Int)] w fun e w' => e = .returned (.int .i64 (redoTo xs d l)) ∧ Below w.heap.size w w' := by
 have hb0 : Below w.heap.size w (w.alloc (.cells #[.slice av nv cv, .slice ao no co] 49)) := (Below.refl _ w).alloc (Nat.le_refl _) _
 have HO := Lib.hid (h.below hb0 hB)
 have HB := Lib.hid hb0
 have HX := Lib.hid (boxAt (Below.refl _ (w.alloc (.cells #[.slice av nv cv, .slice ao no co] 49))))
 have HL := Lib.hid h.1
 have hsz : w.heap.size < (w.alloc (.cells #[.slice av nv cv, .slice ao no co] 49)).heap.size := by show _ < (w.heap.push _).size; simp
 have HC := Lib.hid hc
 have HR := Lib.hid (undo_le hc d l.length (Nat.le_refl _))
 have HH := Lib.hid (fun (n : Int) hn => cart_hasV hc hd (n := n) hn)
 have hr1 := HR.out.1
 have hr2 := HR.out.2
 have HRe : Hid (redoTo xs d l = if undoTo (d : Int) l l.length + 1 ≤ xs.getD d 0 then undoTo (d : Int) l l.length + 1 else 0) := rfl
 clear h hb0 hc
 obtain ⟨c0, c1⟩ := pair_cells HX.out
 go_enter Tryz.func110, Tryz.ntmps110
 go_wp2_with fail
 generalize w.alloc (.cells #[.slice av nv cv, .slice ao no co] 49) = w0 at HO HB HX hsz c0 c1 ⊢
 refine (l6Undo w0 B av ao nv cv no co xs l (d : Int) HO.out (by omega) hn HC.out).mono ?_
 rintro e w2 ⟨rfl, hb2⟩
 have HX2 := Lib.hid ((hb2.block _ hsz).trans HX.out)
 have HO2 := Lib.hid (HO.out.below hb2 (by omega))
 have HB2 := Lib.hid (HB.out.trans (hb2.mono HB.out.size))
 clear hb2 c0 c1 HX HO HB
 obtain ⟨c0, c1⟩ := pair_cells HX2.out
 generalize undoTo (d : Int) l l.length = u at hr1 hr2 HRe ⊢
 go_wp2_with fail
 refine (l4AtT w2 B ao no co l (d : Int) (u + 1) HO2.out hn).mono ?_
 rintro e w' ⟨rfl, ⟨i, hi, h1, h2, rfl⟩ | ⟨hno, rfl⟩⟩
 ·have HE : Hid (redoTo xs d l = u + 1) := by show _ = _; rw [HRe.out, if_pos ((HH.out (u + 1) (by omega)).2 ⟨i, hi, h1, h2⟩)]
  clear hi h1 h2
  have hlt : decide ((i : Int) < 0) = false := decide_eq_false (by omega)
  go_wp2
  go_ret
  exact ⟨by rw [HE.out]; rfl, HB2.out⟩
 ·have HE : Hid (redoTo xs d l = 0) := by
   show _ = _
   rw [HRe.out, if_neg (fun h => by
    obtain ⟨i, hi, h1, h2⟩ := (HH.out (u + 1) (by omega)).1 h
    exact hno i hi ⟨h1, h2⟩)]
  clear hno
  go_wp2
  go_ret
  exact ⟨by rw [HE.out]; rfl, HB2.out⟩

def StV.cells (s : StV) : Array Value := #[.int .i64 s.level, .int .i64 s.counted.dev, .int .i64 s.counted.seq, .int .i64 s.counted.stamp, .int .i64 s.counted.kind, .string s.counted.item, .int .i64 s.counted.qty, .int .i64 s.counted.level, .int .i64 s.counted.undos, .int .i64 s.placed.dev, .int .i64 s.placed.seq, .int .i64 s.placed.stamp, .int .i64 s.placed.kind, .string s.placed.item, .int .i64 s.placed.qty, .int .i64 s.placed.level, .int .i64 s.placed.undos]
def StV.val (s : StV) : Value := .agg s.cells
/-- Three blocks that a call has laid first: two arguments and a result. -/
structure Tri (w w1 : World) (x y z : Array Value) (S T U : TypeId) : Prop where
 fst : w1.heap[w.heap.size]? = some (.cells x S (0, 0))
 snd : w1.heap[w.heap.size + 1]? = some (.cells y T (0, 0))
 res : w1.heap[w.heap.size + 1 + 1]? = some (.cells z U (0, 0))
 bel : Below w.heap.size w w1
theorem Tri.mk0 (w : World) (x y z : Array Value) (S T U : TypeId) : Tri w (((w.alloc (.cells x S)).alloc (.cells y T)).alloc (.cells z U)) x y z S T U := by
 have e1 : (w.alloc (.cells x S)).heap.size = w.heap.size + 1 := by simp
 have e2 : ((w.alloc (.cells x S)).alloc (.cells y T)).heap.size = w.heap.size + 1 + 1 := by simp
 refine ⟨?_, ?_, ?_, (((Below.refl _ w).alloc (Nat.le_refl _) _).alloc (by simp) _).alloc (by simp; omega) _⟩
 ·rw [Below.heap_alloc _ _ _ (by omega), Below.heap_alloc _ _ _ (by omega)]
  exact World.alloc_heap_new w _
 ·rw [Below.heap_alloc _ _ _ (by omega), ← e1]
  exact World.alloc_heap_new _ _
 ·rw [← e2]
  exact World.alloc_heap_new _ _
theorem Tri.next {w w1 w2 : World} {x y z : Array Value} {S T U : TypeId} (h : Tri w w1 x y z S T U) (hb : Below w1.heap.size w1 w2) : Tri w w2 x y z S T U :=
 ⟨(hb.block _ (Array.getElem?_eq_some_iff.1 h.fst).1).trans h.fst, (hb.block _ (Array.getElem?_eq_some_iff.1 h.snd).1).trans h.snd, (hb.block _ (Array.getElem?_eq_some_iff.1 h.res).1).trans h.res, h.bel.trans (hb.mono h.bel.size)⟩

end Go.Proofs.YtgagchlcafdiaaaGreat
