/- More mathematics that several claims share. -/
import Derived.Test.YthfkoplljinmmaaGb0
import Derived.Test.YthfkoplljinmmaaGb1
import Derived.Test.YthfkoplljinmmaaGb2
import Derived.Test.YthfkoplljinmmaaGb3
import Derived.Test.YthfkoplljinmmaaGb4
import Derived.Test.YthfkoplljinmmaaGb5
import Derived.Test.YthfkoplljinmmaaGb6
import Derived.Test.YthfkoplljinmmaaGb7
import Derived.Test.YthfkoplljinmmaaGb8
import Derived.Test.YthfkoplljinmmaaGb9
import Derived.Test.YthfkoplljinmmaaGb10
import Derived.Test.YthfkoplljinmmaaGb11
import Derived.Test.YthfkoplljinmmaaGb12
import Derived.Test.YthfkoplljinmmaaGb13
import Derived.Test.YthfkoplljinmmaaGb14
import Derived.Test.YthfkoplljinmmaaGb15
import Derived.Test.YthfkoplljinmmaaGb16
import Derived.Test.YthfkoplljinmmaaGb17
import Derived.Test.YthfkoplljinmmaaGb18
import Derived.Test.YthfkoplljinmmaaGb19
import Derived.Test.YthfkoplljinmmaaGb20
import Derived.Test.YthfkoplljinmmaaGb21
import Derived.Test.YthfkoplljinmmaaGb22
import Derived.Test.YthfkoplljinmmaaGb23
import Derived.Test.YthfkoplljinmmaaGb24
import Derived.Test.YthfkoplljinmmaaGb25
import Derived.Test.YthfkoplljinmmaaGb26
import Derived.Test.YthfkoplljinmmaaGb27
import Derived.Test.YthfkoplljinmmaaGb28
import Derived.Test.YthfkoplljinmmaaGb29
import Derived.Test.YthfkoplljinmmaaGb30
import Derived.Test.YthfkoplljinmmaaGb31
import Derived.Test.YthfkoplljinmmaaGb32
import Derived.Test.YthfkoplljinmmaaGb33
import Derived.Test.YthfkoplljinmmaaGb34
import Derived.WalkKit
import Derived.Laws.AppendOwn
import Derived.Shelf.LaysM
import Derived.Shelf.Strconv.Clone
import Derived.WalkLawsBesides
import Derived.Lib.Hide
import Derived.Lib.Strings
import Derived.WalkSpells
import Derived.IntWalk
import Derived.Below
import Derived.Laws.Rows
import Derived.OpenShut
import Derived.Handy
import Derived.Deep.QuietTactic
import Derived.BigQuiet
import Derived.Laws.MakeOwn
import Derived.OwnWalk
import Derived.Deep.Cut
import Derived.Deep.RegionHeld3
import Derived.RegionTactic
import Derived.Maps.AppendAt
import Derived.Laws.Cover3
import Derived.Deep.CutRange
import Derived.Deep.CutBlock
import Derived.Deep.AppendLies
import Derived.Lib.SliceRun
import Derived.Lib.MinMax
import Derived.Laws.BytesArg
import Derived.Laws.EntriesVeiled
import Derived.Laws.OwnMore
import Derived.Deep.Onto
import Derived.Maps.OwnSet
import Derived.DeepKeys4
import Derived.ScopeJumps
import Derived.RangeFuncNested
import Derived.RangeFuncBound
import Derived.RangeFuncCalls
import Derived.RangeFuncLeaves
import Derived.Shelf.Abstract
import Derived.Shelf.RegionOpen
import Derived.OwnWalkIn
import Derived.TacticsInMore
import Derived.LoopNIn
import Derived.LoopIn
import Derived.Laws.Tables
import Derived.Great.BuildSlice
namespace Go.Proofs.Ythfkoplljinmmaa
open Go.RowKit
/-- It is nil; or it leads to a row of 'cap' cells, the numbers 'zs' (the first 'len' are its elements), each fitting its kind. -/
def IsRow (k : IntKind) (w : World) (a : Option Addr) (len cap : Nat) (zs : List Int) : Prop :=
  (a = none ∧ len = 0 ∧ cap = 0 ∧ zs = []) ∨
  ∃ x, a = some x ∧ len ≤ cap ∧ cap ≤ maxLen ∧ zs.length = cap ∧ (∀ i, i < zs.length → w.cell? (x.add i) = some (.int k (zs.getD i 0))) ∧ ∀ n ∈ zs, (Lit.int k n).wf = true
theorem add_plain {x : Addr} {w : World} {v : Value} (h : w.cell? (x.add 0) = some v) : ∃ b off, x = ⟨b, off, none⟩ := by
  obtain ⟨b, off, spot⟩ := x
  have hs := World.cell?_spot h
  have e0 : (⟨b, off, spot⟩ : Addr).add 0 = ⟨b, off, spot⟩ := by simp [Addr.add]
  rw [e0] at hs
  have : spot = none := hs
  subst this
  exact ⟨b, off, rfl⟩
theorem src_of_row {w : World} {a : Option Addr} {len cap : Nat} {zs : List Int} (h : IsRow .u8 w a len cap zs) (hl : len ≤ 1048576) : Src w w.heap.size a len := by
  refine ⟨hl, fun i hi => ?_⟩
  rcases h with ⟨_, rfl, _⟩ | ⟨x, rfl, hlc, _, hz, hc, hw⟩
  · omega
  · have hci := hc i (by omega)
    obtain ⟨b, off, rfl⟩ := add_plain (hc 0 (by omega))
    have ea := add_at b off i
    have hb := bounds_u8 (hw (zs.getD i 0) (by rw [List.getD_eq_getElem?_getD, List.getElem?_eq_getElem (by omega)]; simp))
    rw [ea] at hci
    refine ⟨b, off, (zs.getD i 0).toNat, rfl, block_lt_of_cell hci, by omega, ?_⟩
    rw [hci, Int.toNat_of_nonneg hb.1]

theorem below_none {w w' : World} {B : Nat} (hg : w.grownBy w' none) (hB2 : B ≤ w.heap.size) : Below B w w' :=
  (Below.refl B w).grown hg hB2 (fun k hk => by cases hk)

theorem src_below {w w' : World} {B : Nat} {a : Option Addr} {len : Nat} (h : Src w B a len) (hb : Below B w w') : Src w' B a len := h.kept hb.block

theorem bigNo (a : Option Addr) (len cap : Nat) (h : len ≤ 1048576) (w : World) :
    Calls Try.prog 15 #[.slice a len cap] w fun e w' => e = .returned (.bool false) ∧ w = w' := by
  have hd : decide ((1048576 : Int) < (len : Int)) = false := decide_eq_false (by omega)
  go_enter Try.func15, Try.ntmps15
  go_wp2
  go_ret
  exact ⟨rfl, rfl⟩
theorem bigYes (a : Option Addr) (len cap : Nat) (h : ¬ len ≤ 1048576) (w : World) :
    Calls Try.prog 15 #[.slice a len cap] w fun e w' => e = .returned (.bool true) ∧ w = w' := by
  have hd : decide ((1048576 : Int) < (len : Int)) = true := decide_eq_true (by omega)
  go_enter Try.func15, Try.ntmps15
  go_wp2
  go_ret
  exact ⟨rfl, rfl⟩

end Go.Proofs.Ythfkoplljinmmaa
