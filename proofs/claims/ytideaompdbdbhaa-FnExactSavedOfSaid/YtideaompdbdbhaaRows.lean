/-
  No cell of these rows narrows 'for every input' (looked for: loops, veiled, ifaces, maps, wideKeys, modest, calm, conditions, laid).
  DERIVED. THE GIVEN ROWS OF THIS SEAT. 6 by the template 'for every input the law returns true; each argument reads behind the call as it read before'; 0 by the template 'total and deterministic' (their statements: YtideaompdbdbhaaTotals.lean).
  GIVEN WITH THE SEED: the statements are not yours to turn. If you find one false, say at which input.
  Laid BY PROGRAM, IN A SANDBOX (cutbox-rows.mjs): the forced cells as the released guide's own fill.sh prints them over the translation fb9dbd6734ff1511… (all of the seat's roots in one cut). By AI agents, Wed Nov 11 2026. No macro, syntax, notation, axiom, sorry.
-/
import Derived.Test.YtideaompdbdbhaaChecked
import GoSem.Claim
import GoSem.ClaimJoined
import GoSem.ClaimMapViews
import Derived.JoinedTies
import Derived.KernelRfl
namespace Go.Proofs.Ytideaompdbdbhaa
/- THE CELL 'sum', in the pinned program and in every row, IS THE sha256 OF THE DUMP (.gsa) THAT YtideaompdbdbhaaProg.lean LOADS. Nothing in Lean hashes anything: it is a label: what it is worth is what the hold of that sum in a sandbox is worth. -/
noncomputable def Try.pinned : Pinned := { name := "ytideaompdbdbhaa", sum := "fb9dbd6734ff1511402e8f6cf65ceb1df0cc57d29f3b46ba94bd261883e6a1fd", checked := Try.checked }
namespace Rows
def none {H : Type} : Left H := { results := [], args := [] }

/-- 'laws.FnExactCmdOk': WHATEVER THE INPUT: true; the input reads as it did. -/
def fnExactCmdOkSpec : ChangeSpec := { name := "fnExactCmdOk", fn := fun _ => fun
  | [d] => { results := [.lit (.bool true)], args := [d] }
  | _ => none }
def fnExactCmdOkRow : OpenClaim := { program := "ytideaompdbdbhaa", sum := "fb9dbd6734ff1511402e8f6cf65ceb1df0cc57d29f3b46ba94bd261883e6a1fd", func := "loop.example/g00660/laws.FnExactCmdOk", spec := "fnExactCmdOk", apart := false }
def FnExactCmdOkSaid : Prop := fnExactCmdOkRow.holds Try.pinned (OpenSpec.ofChange fnExactCmdOkSpec)

/-- ITS FALSE NEIGHBOUR: 'it returns false'. Refute it at one input. -/
def fnExactCmdOkWrong : ChangeSpec := { name := "fnExactCmdOk", fn := fun _ => fun
  | [d] => { results := [.lit (.bool false)], args := [d] }
  | _ => none }
def FnExactCmdOkWrongFalsely : Prop := fnExactCmdOkRow.holds Try.pinned (OpenSpec.ofChange fnExactCmdOkWrong)

/-- 'laws.FnExactLevelOf': WHATEVER THE INPUT: true; the input reads as it did. -/
def fnExactLevelOfSpec : ChangeSpec := { name := "fnExactLevelOf", fn := fun _ => fun
  | [d1, d2] => { results := [.lit (.bool true)], args := [d1, d2] }
  | _ => none }
def fnExactLevelOfRow : OpenClaim := { program := "ytideaompdbdbhaa", sum := "fb9dbd6734ff1511402e8f6cf65ceb1df0cc57d29f3b46ba94bd261883e6a1fd", func := "loop.example/g00660/laws.FnExactLevelOf", spec := "fnExactLevelOf", unfollowed := true, recurses := true, apart := false }
def FnExactLevelOfSaid : Prop := fnExactLevelOfRow.holds Try.pinned (OpenSpec.ofChange fnExactLevelOfSpec)

/-- ITS FALSE NEIGHBOUR: 'it returns false'. Refute it at one input. -/
def fnExactLevelOfWrong : ChangeSpec := { name := "fnExactLevelOf", fn := fun _ => fun
  | [d1, d2] => { results := [.lit (.bool false)], args := [d1, d2] }
  | _ => none }
def FnExactLevelOfWrongFalsely : Prop := fnExactLevelOfRow.holds Try.pinned (OpenSpec.ofChange fnExactLevelOfWrong)

/-- 'laws.FnExactQtyOf': WHATEVER THE INPUT: true; the input reads as it did. -/
def fnExactQtyOfSpec : ChangeSpec := { name := "fnExactQtyOf", fn := fun _ => fun
  | [d1, d2] => { results := [.lit (.bool true)], args := [d1, d2] }
  | _ => none }
def fnExactQtyOfRow : OpenClaim := { program := "ytideaompdbdbhaa", sum := "fb9dbd6734ff1511402e8f6cf65ceb1df0cc57d29f3b46ba94bd261883e6a1fd", func := "loop.example/g00660/laws.FnExactQtyOf", spec := "fnExactQtyOf", unfollowed := true, recurses := true, apart := false }
def FnExactQtyOfSaid : Prop := fnExactQtyOfRow.holds Try.pinned (OpenSpec.ofChange fnExactQtyOfSpec)

/-- ITS FALSE NEIGHBOUR: 'it returns false'. Refute it at one input. -/
def fnExactQtyOfWrong : ChangeSpec := { name := "fnExactQtyOf", fn := fun _ => fun
  | [d1, d2] => { results := [.lit (.bool false)], args := [d1, d2] }
  | _ => none }
def FnExactQtyOfWrongFalsely : Prop := fnExactQtyOfRow.holds Try.pinned (OpenSpec.ofChange fnExactQtyOfWrong)

/-- 'laws.FnExactSavedOf': WHATEVER THE INPUT: true; the input reads as it did. -/
def fnExactSavedOfSpec : ChangeSpec := { name := "fnExactSavedOf", fn := fun _ => fun
  | [d1, d2] => { results := [.lit (.bool true)], args := [d1, d2] }
  | _ => none }
def fnExactSavedOfRow : OpenClaim := { program := "ytideaompdbdbhaa", sum := "fb9dbd6734ff1511402e8f6cf65ceb1df0cc57d29f3b46ba94bd261883e6a1fd", func := "loop.example/g00660/laws.FnExactSavedOf", spec := "fnExactSavedOf", unfollowed := true, recurses := true, apart := false }
def FnExactSavedOfSaid : Prop := fnExactSavedOfRow.holds Try.pinned (OpenSpec.ofChange fnExactSavedOfSpec)

/-- ITS FALSE NEIGHBOUR: 'it returns false'. Refute it at one input. -/
def fnExactSavedOfWrong : ChangeSpec := { name := "fnExactSavedOf", fn := fun _ => fun
  | [d1, d2] => { results := [.lit (.bool false)], args := [d1, d2] }
  | _ => none }
def FnExactSavedOfWrongFalsely : Prop := fnExactSavedOfRow.holds Try.pinned (OpenSpec.ofChange fnExactSavedOfWrong)

/-- 'laws.FnExactUndoTarget': WHATEVER THE INPUT: true; the input reads as it did. -/
def fnExactUndoTargetSpec : ChangeSpec := { name := "fnExactUndoTarget", fn := fun _ => fun
  | [d1, d2] => { results := [.lit (.bool true)], args := [d1, d2] }
  | _ => none }
def fnExactUndoTargetRow : OpenClaim := { program := "ytideaompdbdbhaa", sum := "fb9dbd6734ff1511402e8f6cf65ceb1df0cc57d29f3b46ba94bd261883e6a1fd", func := "loop.example/g00660/laws.FnExactUndoTarget", spec := "fnExactUndoTarget", unfollowed := true, recurses := true, apart := false }
def FnExactUndoTargetSaid : Prop := fnExactUndoTargetRow.holds Try.pinned (OpenSpec.ofChange fnExactUndoTargetSpec)

/-- ITS FALSE NEIGHBOUR: 'it returns false'. Refute it at one input. -/
def fnExactUndoTargetWrong : ChangeSpec := { name := "fnExactUndoTarget", fn := fun _ => fun
  | [d1, d2] => { results := [.lit (.bool false)], args := [d1, d2] }
  | _ => none }
def FnExactUndoTargetWrongFalsely : Prop := fnExactUndoTargetRow.holds Try.pinned (OpenSpec.ofChange fnExactUndoTargetWrong)

/-- 'laws.FnExactRedoTarget': WHATEVER THE INPUT: true; the input reads as it did. -/
def fnExactRedoTargetSpec : ChangeSpec := { name := "fnExactRedoTarget", fn := fun _ => fun
  | [d1, d2] => { results := [.lit (.bool true)], args := [d1, d2] }
  | _ => none }
def fnExactRedoTargetRow : OpenClaim := { program := "ytideaompdbdbhaa", sum := "fb9dbd6734ff1511402e8f6cf65ceb1df0cc57d29f3b46ba94bd261883e6a1fd", func := "loop.example/g00660/laws.FnExactRedoTarget", spec := "fnExactRedoTarget", unfollowed := true, recurses := true, apart := false }
def FnExactRedoTargetSaid : Prop := fnExactRedoTargetRow.holds Try.pinned (OpenSpec.ofChange fnExactRedoTargetSpec)

/-- ITS FALSE NEIGHBOUR: 'it returns false'. Refute it at one input. -/
def fnExactRedoTargetWrong : ChangeSpec := { name := "fnExactRedoTarget", fn := fun _ => fun
  | [d1, d2] => { results := [.lit (.bool false)], args := [d1, d2] }
  | _ => none }
def FnExactRedoTargetWrongFalsely : Prop := fnExactRedoTargetRow.holds Try.pinned (OpenSpec.ofChange fnExactRedoTargetWrong)

/- THE SECOND FORM. 'bulk': how many values and letters a reading holds, each counted each time it is reached (what is shared counts as often as it is met; a slice's spare places count too). A statement '..UptoSaid' is the law's where the arguments, and the package variables that the reading takes, are together of bulk at most 1048576: NARROWER than '..Said'. Prove '..Said' where nothing that the law and all that it calls make is longer than what came in: it says more and counts as full. Else prove '..UptoSaid'. A law counts once. -/
mutual
def uptoBulk {H : Type} : DataW H → Nat
  | .lit (.string bytes) => bytes.length + 1
  | .lit _ => 1
  | .nil => 1
  | .ptr d => uptoBulk d + 1
  | .slice elems spare => uptoBulkAll elems + uptoBulkAll spare + 1
  | .agg parts => uptoBulkAll parts + 1
  | .iface _ d => uptoBulk d + 1
  | .map entries => uptoBulkEntries entries + 1
  | .held _ => 1
def uptoBulkAll {H : Type} : List (DataW H) → Nat
  | [] => 0
  | d :: r => uptoBulk d + uptoBulkAll r
def uptoBulkEntries {H : Type} : List (Lit × DataW H) → Nat
  | [] => 0
  | x :: r => uptoBulkEntry x + uptoBulkEntries r
def uptoBulkEntry {H : Type} : Lit × DataW H → Nat
  | (.string bytes, d) => bytes.length + uptoBulk d + 1
  | (_, d) => uptoBulk d + 1
 end
def uptoSmall : (H : Type) → List (DataW H) → Bool := fun _ ds => decide (uptoBulkAll ds ≤ 1048576)
def OpenSpec.upto (s : _root_.Go.ChangeSpec) : _root_.Go.OpenSpec := { _root_.Go.OpenSpec.ofChange s with cond := some uptoSmall }

/-- 'laws.FnExactCmdOk', WHERE WHAT IT READS IS OF BULK AT MOST 1048576: true; the input reads as it did. -/
def fnExactCmdOkUptoRow : OpenClaim := { program := "ytideaompdbdbhaa", sum := "fb9dbd6734ff1511402e8f6cf65ceb1df0cc57d29f3b46ba94bd261883e6a1fd", func := "loop.example/g00660/laws.FnExactCmdOk", spec := "fnExactCmdOk", apart := false, narrowed := true }
def FnExactCmdOkUptoSaid : Prop := fnExactCmdOkUptoRow.holds Try.pinned (OpenSpec.upto fnExactCmdOkSpec)

/-- 'laws.FnExactLevelOf', WHERE WHAT IT READS IS OF BULK AT MOST 1048576: true; the input reads as it did. -/
def fnExactLevelOfUptoRow : OpenClaim := { program := "ytideaompdbdbhaa", sum := "fb9dbd6734ff1511402e8f6cf65ceb1df0cc57d29f3b46ba94bd261883e6a1fd", func := "loop.example/g00660/laws.FnExactLevelOf", spec := "fnExactLevelOf", unfollowed := true, recurses := true, apart := false, narrowed := true }
def FnExactLevelOfUptoSaid : Prop := fnExactLevelOfUptoRow.holds Try.pinned (OpenSpec.upto fnExactLevelOfSpec)

/-- 'laws.FnExactQtyOf', WHERE WHAT IT READS IS OF BULK AT MOST 1048576: true; the input reads as it did. -/
def fnExactQtyOfUptoRow : OpenClaim := { program := "ytideaompdbdbhaa", sum := "fb9dbd6734ff1511402e8f6cf65ceb1df0cc57d29f3b46ba94bd261883e6a1fd", func := "loop.example/g00660/laws.FnExactQtyOf", spec := "fnExactQtyOf", unfollowed := true, recurses := true, apart := false, narrowed := true }
def FnExactQtyOfUptoSaid : Prop := fnExactQtyOfUptoRow.holds Try.pinned (OpenSpec.upto fnExactQtyOfSpec)

/-- 'laws.FnExactSavedOf', WHERE WHAT IT READS IS OF BULK AT MOST 1048576: true; the input reads as it did. -/
def fnExactSavedOfUptoRow : OpenClaim := { program := "ytideaompdbdbhaa", sum := "fb9dbd6734ff1511402e8f6cf65ceb1df0cc57d29f3b46ba94bd261883e6a1fd", func := "loop.example/g00660/laws.FnExactSavedOf", spec := "fnExactSavedOf", unfollowed := true, recurses := true, apart := false, narrowed := true }
def FnExactSavedOfUptoSaid : Prop := fnExactSavedOfUptoRow.holds Try.pinned (OpenSpec.upto fnExactSavedOfSpec)

/-- 'laws.FnExactUndoTarget', WHERE WHAT IT READS IS OF BULK AT MOST 1048576: true; the input reads as it did. -/
def fnExactUndoTargetUptoRow : OpenClaim := { program := "ytideaompdbdbhaa", sum := "fb9dbd6734ff1511402e8f6cf65ceb1df0cc57d29f3b46ba94bd261883e6a1fd", func := "loop.example/g00660/laws.FnExactUndoTarget", spec := "fnExactUndoTarget", unfollowed := true, recurses := true, apart := false, narrowed := true }
def FnExactUndoTargetUptoSaid : Prop := fnExactUndoTargetUptoRow.holds Try.pinned (OpenSpec.upto fnExactUndoTargetSpec)

/-- 'laws.FnExactRedoTarget', WHERE WHAT IT READS IS OF BULK AT MOST 1048576: true; the input reads as it did. -/
def fnExactRedoTargetUptoRow : OpenClaim := { program := "ytideaompdbdbhaa", sum := "fb9dbd6734ff1511402e8f6cf65ceb1df0cc57d29f3b46ba94bd261883e6a1fd", func := "loop.example/g00660/laws.FnExactRedoTarget", spec := "fnExactRedoTarget", unfollowed := true, recurses := true, apart := false, narrowed := true }
def FnExactRedoTargetUptoSaid : Prop := fnExactRedoTargetUptoRow.holds Try.pinned (OpenSpec.upto fnExactRedoTargetSpec)

end Rows
end Go.Proofs.Ytideaompdbdbhaa
