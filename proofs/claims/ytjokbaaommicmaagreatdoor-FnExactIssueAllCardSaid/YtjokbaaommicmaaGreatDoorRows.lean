/-
  NARROWER THAN 'FOR EVERY INPUT', by the rows' own cells (each row's printed sentence says how): FnExactIssue: ifaces, laid · FnExactIssueAll: ifaces, laid · FnIssue: ifaces, laid.
  DERIVED. THE GIVEN ROWS OF THIS SEAT. 3 by the template 'for every input the law returns true; each argument reads behind the call as it read before'; 0 by the template 'total and deterministic' (their statements: YtjokbaaommicmaaGreatDoorTotals.lean).
  GIVEN WITH THE SEED: the statements are not yours to turn. If you find one false, say at which input.
  Laid BY PROGRAM, IN A SANDBOX (cutbox-rows.mjs): the forced cells as the released guide's own fill.sh prints them over the translation 88b51b29004faa85… (all of the seat's roots in one cut). By AI agents, Wed Nov 11 2026. No macro, syntax, notation, axiom, sorry.
-/
import Derived.Test.YtjokbaaommicmaaGreatDoorChecked
import GoSem.Claim
import GoSem.ClaimJoined
import GoSem.ClaimMapViews
import Derived.JoinedTies
import Derived.KernelRfl
namespace Go.Proofs.YtjokbaaommicmaaGreatDoor
/- THE CELL 'sum', in the pinned program and in every row, IS THE sha256 OF THE DUMP (.gsa) THAT YtjokbaaommicmaaGreatDoorProg.lean LOADS. Nothing in Lean hashes anything: it is a label: what it is worth is what the hold of that sum in a sandbox is worth. -/
noncomputable def Tryz.pinned : Pinned := { name := "ytjokbaaommicmaagreatdoor", sum := "88b51b29004faa853d1ecce96f9c5ac7080640ffebb72665ec092ac14b973d91", checked := Tryz.checked }
namespace Rows
def none {H : Type} : Left H := { results := [], args := [] }

/- WHAT THE LISTED PACKAGE-LEVEL VARIABLES READ AS WHEN THE CALL BEGINS. Each datum BY PROGRAM (the guide's laid-datum.mjs) off the statement by which the dump's own 'gosem.cut.vars' lays the variable. In a bare row this is a premise. The card (YtjokbaaommicmaaGreatDoorCards.lean) ties it to the program's text. -/
def laid_errors_errorType {H : Type} : DataW H := .iface "internal/reflectlite.rtype" (.agg [.ptr (.lit (.string [101, 114, 114, 111, 114]))])
def laid_loop_example_g00660_impl_errForm {H : Type} : DataW H := .iface "*errors.errorString" (.ptr (.agg [.lit (.string [116, 104, 101, 32, 99, 97, 114, 116, 44, 32, 116, 104, 101, 32, 100, 101, 118, 105, 99, 101, 32, 111, 114, 32, 116, 104, 101, 32, 99, 111, 109, 109, 97, 110, 100, 32, 105, 115, 32, 110, 111, 116, 32, 118, 97, 108, 105, 100])]))
def laid_loop_example_g00660_impl_errNone {H : Type} : DataW H := .iface "*errors.errorString" (.ptr (.agg [.lit (.string [116, 104, 101, 114, 101, 32, 105, 115, 32, 110, 111, 116, 104, 105, 110, 103, 32, 116, 104, 97, 116, 32, 116, 104, 101, 32, 99, 111, 109, 109, 97, 110, 100, 32, 99, 111, 117, 108, 100, 32, 99, 104, 97, 110, 103, 101])]))
def laid_loop_example_g00660_impl_errThere {H : Type} : DataW H := .iface "*errors.errorString" (.ptr (.agg [.lit (.string [116, 104, 101, 32, 105, 116, 101, 109, 32, 105, 115, 32, 112, 114, 101, 115, 101, 110, 116])]))
def laid_loop_example_g00660_impl_errFull {H : Type} : DataW H := .iface "*errors.errorString" (.ptr (.agg [.lit (.string [97, 32, 108, 105, 109, 105, 116, 32, 105, 115, 32, 114, 101, 97, 99, 104, 101, 100])]))

/-- 'laws.FnExactIssue': WHATEVER THE INPUT: true; the input reads as it did. -/
def fnExactIssueSpec : ChangeSpec := { name := "fnExactIssue", vars := ["loop.example/g00660/impl.errForm", "loop.example/g00660/impl.errNone", "loop.example/g00660/impl.errThere", "loop.example/g00660/impl.errFull"], fn := fun _ => fun
  | [d1, d2, d3, g1, g2, g3, g4] => { results := [.lit (.bool true)], args := [d1, d2, d3], vars := [g1, g2, g3, g4] }
  | _ => none }
def fnExactIssueRow : OpenClaim := { program := "ytjokbaaommicmaagreatdoor", sum := "88b51b29004faa853d1ecce96f9c5ac7080640ffebb72665ec092ac14b973d91", func := "loop.example/g00660/laws.FnExactIssue", spec := "fnExactIssue", inPlace := ["slices.overlaps[loop.example/g00660/impl.Op]", "internal/reflectlite.ValueOf", "(internal/reflectlite.Value).Type", "(internal/reflectlite.Value).IsNil", "internal/reflectlite.TypeOf", "(internal/reflectlite.Value).Elem", "(internal/reflectlite.Value).Set"], unfollowed := true, recurses := true, named := ["loop.example/g00660/impl.errForm", "loop.example/g00660/impl.errNone", "loop.example/g00660/impl.errThere", "loop.example/g00660/impl.errFull", "errors.errorType"], ifaces := true, plainKeys := false, apart := false, laid := [("errors.errorType", laid_errors_errorType), ("loop.example/g00660/impl.errForm", laid_loop_example_g00660_impl_errForm), ("loop.example/g00660/impl.errNone", laid_loop_example_g00660_impl_errNone), ("loop.example/g00660/impl.errThere", laid_loop_example_g00660_impl_errThere), ("loop.example/g00660/impl.errFull", laid_loop_example_g00660_impl_errFull)] }
def FnExactIssueSaid : Prop := fnExactIssueRow.holds Tryz.pinned (OpenSpec.ofChange fnExactIssueSpec)

/-- ITS FALSE NEIGHBOUR: 'it returns false'. Refute it at one input. -/
def fnExactIssueWrong : ChangeSpec := { name := "fnExactIssue", vars := ["loop.example/g00660/impl.errForm", "loop.example/g00660/impl.errNone", "loop.example/g00660/impl.errThere", "loop.example/g00660/impl.errFull"], fn := fun _ => fun
  | [d1, d2, d3, g1, g2, g3, g4] => { results := [.lit (.bool false)], args := [d1, d2, d3], vars := [g1, g2, g3, g4] }
  | _ => none }
def FnExactIssueWrongFalsely : Prop := fnExactIssueRow.holds Tryz.pinned (OpenSpec.ofChange fnExactIssueWrong)

/-- 'laws.FnExactIssueAll': WHATEVER THE INPUT: true; the input reads as it did. -/
def fnExactIssueAllSpec : ChangeSpec := { name := "fnExactIssueAll", vars := ["loop.example/g00660/impl.errForm", "loop.example/g00660/impl.errNone", "loop.example/g00660/impl.errThere", "loop.example/g00660/impl.errFull"], fn := fun _ => fun
  | [d1, d2, d3, g1, g2, g3, g4] => { results := [.lit (.bool true)], args := [d1, d2, d3], vars := [g1, g2, g3, g4] }
  | _ => none }
def fnExactIssueAllRow : OpenClaim := { program := "ytjokbaaommicmaagreatdoor", sum := "88b51b29004faa853d1ecce96f9c5ac7080640ffebb72665ec092ac14b973d91", func := "loop.example/g00660/laws.FnExactIssueAll", spec := "fnExactIssueAll", inPlace := ["slices.overlaps[loop.example/g00660/impl.Op]", "internal/reflectlite.ValueOf", "(internal/reflectlite.Value).Type", "(internal/reflectlite.Value).IsNil", "internal/reflectlite.TypeOf", "(internal/reflectlite.Value).Elem", "(internal/reflectlite.Value).Set"], unfollowed := true, recurses := true, named := ["loop.example/g00660/impl.errForm", "loop.example/g00660/impl.errNone", "loop.example/g00660/impl.errThere", "loop.example/g00660/impl.errFull", "errors.errorType"], ifaces := true, plainKeys := false, apart := false, laid := [("errors.errorType", laid_errors_errorType), ("loop.example/g00660/impl.errForm", laid_loop_example_g00660_impl_errForm), ("loop.example/g00660/impl.errNone", laid_loop_example_g00660_impl_errNone), ("loop.example/g00660/impl.errThere", laid_loop_example_g00660_impl_errThere), ("loop.example/g00660/impl.errFull", laid_loop_example_g00660_impl_errFull)] }
def FnExactIssueAllSaid : Prop := fnExactIssueAllRow.holds Tryz.pinned (OpenSpec.ofChange fnExactIssueAllSpec)

/-- ITS FALSE NEIGHBOUR: 'it returns false'. Refute it at one input. -/
def fnExactIssueAllWrong : ChangeSpec := { name := "fnExactIssueAll", vars := ["loop.example/g00660/impl.errForm", "loop.example/g00660/impl.errNone", "loop.example/g00660/impl.errThere", "loop.example/g00660/impl.errFull"], fn := fun _ => fun
  | [d1, d2, d3, g1, g2, g3, g4] => { results := [.lit (.bool false)], args := [d1, d2, d3], vars := [g1, g2, g3, g4] }
  | _ => none }
def FnExactIssueAllWrongFalsely : Prop := fnExactIssueAllRow.holds Tryz.pinned (OpenSpec.ofChange fnExactIssueAllWrong)

/-- 'laws.FnIssue': WHATEVER THE INPUT: true; the input reads as it did. -/
def fnIssueSpec : ChangeSpec := { name := "fnIssue", vars := ["loop.example/g00660/impl.errForm", "loop.example/g00660/impl.errNone", "loop.example/g00660/impl.errThere", "loop.example/g00660/impl.errFull"], fn := fun _ => fun
  | [d, g1, g2, g3, g4] => { results := [.lit (.bool true)], args := [d], vars := [g1, g2, g3, g4] }
  | _ => none }
def fnIssueRow : OpenClaim := { program := "ytjokbaaommicmaagreatdoor", sum := "88b51b29004faa853d1ecce96f9c5ac7080640ffebb72665ec092ac14b973d91", func := "loop.example/g00660/laws.FnIssue", spec := "fnIssue", inPlace := ["slices.overlaps[loop.example/g00660/impl.Op]", "internal/reflectlite.ValueOf", "(internal/reflectlite.Value).Type", "(internal/reflectlite.Value).IsNil", "internal/reflectlite.TypeOf", "(internal/reflectlite.Value).Elem", "(internal/reflectlite.Value).Set"], unfollowed := true, recurses := true, named := ["loop.example/g00660/impl.errForm", "loop.example/g00660/impl.errNone", "loop.example/g00660/impl.errThere", "loop.example/g00660/impl.errFull", "errors.errorType"], ifaces := true, plainKeys := false, apart := false, laid := [("errors.errorType", laid_errors_errorType), ("loop.example/g00660/impl.errForm", laid_loop_example_g00660_impl_errForm), ("loop.example/g00660/impl.errNone", laid_loop_example_g00660_impl_errNone), ("loop.example/g00660/impl.errThere", laid_loop_example_g00660_impl_errThere), ("loop.example/g00660/impl.errFull", laid_loop_example_g00660_impl_errFull)] }
def FnIssueSaid : Prop := fnIssueRow.holds Tryz.pinned (OpenSpec.ofChange fnIssueSpec)

/-- ITS FALSE NEIGHBOUR: 'it returns false'. Refute it at one input. -/
def fnIssueWrong : ChangeSpec := { name := "fnIssue", vars := ["loop.example/g00660/impl.errForm", "loop.example/g00660/impl.errNone", "loop.example/g00660/impl.errThere", "loop.example/g00660/impl.errFull"], fn := fun _ => fun
  | [d, g1, g2, g3, g4] => { results := [.lit (.bool false)], args := [d], vars := [g1, g2, g3, g4] }
  | _ => none }
def FnIssueWrongFalsely : Prop := fnIssueRow.holds Tryz.pinned (OpenSpec.ofChange fnIssueWrong)

/- THE SECOND FORM. 'bulk': how many values and letters a reading holds, each counted each time it is reached (what is shared counts as often as it is met; a slice's spare places count too). A statement '..UptoSaid' is the law's where the arguments, and the package variables that the reading takes, are together of bulk at most 1048576: NARROWER than '..Said'. Prove '..Said' where nothing that the law and all that it calls make is longer than what came in: it says more and counts as full. Else prove '..UptoSaid'. A law counts once. -/
mutual
def uptoBulk {H : Type} : DataW H → Nat
  | .lit (.string bytes) => bytes.length + 1
  | .lit _ => 1
  | .nil => 1
  | .ptr d => uptoBulk d + 1
  | .slice elems spare => uptoBulkAll elems + uptoBulkAll spare + 1
  | .agg parts => uptoBulkAll parts + 1
  | .iface _ d => uptoBulk d + 1
  | .map entries => uptoBulkEntries entries + 1
  | .held _ => 1
def uptoBulkAll {H : Type} : List (DataW H) → Nat
  | [] => 0
  | d :: r => uptoBulk d + uptoBulkAll r
def uptoBulkEntries {H : Type} : List (Lit × DataW H) → Nat
  | [] => 0
  | x :: r => uptoBulkEntry x + uptoBulkEntries r
def uptoBulkEntry {H : Type} : Lit × DataW H → Nat
  | (.string bytes, d) => bytes.length + uptoBulk d + 1
  | (_, d) => uptoBulk d + 1
 end
def uptoSmall : (H : Type) → List (DataW H) → Bool := fun _ ds => decide (uptoBulkAll ds ≤ 1048576)
def OpenSpec.upto (s : _root_.Go.ChangeSpec) : _root_.Go.OpenSpec := { _root_.Go.OpenSpec.ofChange s with cond := some uptoSmall }

/-- 'laws.FnExactIssue', WHERE WHAT IT READS IS OF BULK AT MOST 1048576: true; the input reads as it did. -/
def fnExactIssueUptoRow : OpenClaim := { program := "ytjokbaaommicmaagreatdoor", sum := "88b51b29004faa853d1ecce96f9c5ac7080640ffebb72665ec092ac14b973d91", func := "loop.example/g00660/laws.FnExactIssue", spec := "fnExactIssue", inPlace := ["slices.overlaps[loop.example/g00660/impl.Op]", "internal/reflectlite.ValueOf", "(internal/reflectlite.Value).Type", "(internal/reflectlite.Value).IsNil", "internal/reflectlite.TypeOf", "(internal/reflectlite.Value).Elem", "(internal/reflectlite.Value).Set"], unfollowed := true, recurses := true, named := ["loop.example/g00660/impl.errForm", "loop.example/g00660/impl.errNone", "loop.example/g00660/impl.errThere", "loop.example/g00660/impl.errFull", "errors.errorType"], ifaces := true, plainKeys := false, apart := false, laid := [("errors.errorType", laid_errors_errorType), ("loop.example/g00660/impl.errForm", laid_loop_example_g00660_impl_errForm), ("loop.example/g00660/impl.errNone", laid_loop_example_g00660_impl_errNone), ("loop.example/g00660/impl.errThere", laid_loop_example_g00660_impl_errThere), ("loop.example/g00660/impl.errFull", laid_loop_example_g00660_impl_errFull)], narrowed := true }
def FnExactIssueUptoSaid : Prop := fnExactIssueUptoRow.holds Tryz.pinned (OpenSpec.upto fnExactIssueSpec)

/-- 'laws.FnExactIssueAll', WHERE WHAT IT READS IS OF BULK AT MOST 1048576: true; the input reads as it did. -/
def fnExactIssueAllUptoRow : OpenClaim := { program := "ytjokbaaommicmaagreatdoor", sum := "88b51b29004faa853d1ecce96f9c5ac7080640ffebb72665ec092ac14b973d91", func := "loop.example/g00660/laws.FnExactIssueAll", spec := "fnExactIssueAll", inPlace := ["slices.overlaps[loop.example/g00660/impl.Op]", "internal/reflectlite.ValueOf", "(internal/reflectlite.Value).Type", "(internal/reflectlite.Value).IsNil", "internal/reflectlite.TypeOf", "(internal/reflectlite.Value).Elem", "(internal/reflectlite.Value).Set"], unfollowed := true, recurses := true, named := ["loop.example/g00660/impl.errForm", "loop.example/g00660/impl.errNone", "loop.example/g00660/impl.errThere", "loop.example/g00660/impl.errFull", "errors.errorType"], ifaces := true, plainKeys := false, apart := false, laid := [("errors.errorType", laid_errors_errorType), ("loop.example/g00660/impl.errForm", laid_loop_example_g00660_impl_errForm), ("loop.example/g00660/impl.errNone", laid_loop_example_g00660_impl_errNone), ("loop.example/g00660/impl.errThere", laid_loop_example_g00660_impl_errThere), ("loop.example/g00660/impl.errFull", laid_loop_example_g00660_impl_errFull)], narrowed := true }
def FnExactIssueAllUptoSaid : Prop := fnExactIssueAllUptoRow.holds Tryz.pinned (OpenSpec.upto fnExactIssueAllSpec)

/-- 'laws.FnIssue', WHERE WHAT IT READS IS OF BULK AT MOST 1048576: true; the input reads as it did. -/
def fnIssueUptoRow : OpenClaim := { program := "ytjokbaaommicmaagreatdoor", sum := "88b51b29004faa853d1ecce96f9c5ac7080640ffebb72665ec092ac14b973d91", func := "loop.example/g00660/laws.FnIssue", spec := "fnIssue", inPlace := ["slices.overlaps[loop.example/g00660/impl.Op]", "internal/reflectlite.ValueOf", "(internal/reflectlite.Value).Type", "(internal/reflectlite.Value).IsNil", "internal/reflectlite.TypeOf", "(internal/reflectlite.Value).Elem", "(internal/reflectlite.Value).Set"], unfollowed := true, recurses := true, named := ["loop.example/g00660/impl.errForm", "loop.example/g00660/impl.errNone", "loop.example/g00660/impl.errThere", "loop.example/g00660/impl.errFull", "errors.errorType"], ifaces := true, plainKeys := false, apart := false, laid := [("errors.errorType", laid_errors_errorType), ("loop.example/g00660/impl.errForm", laid_loop_example_g00660_impl_errForm), ("loop.example/g00660/impl.errNone", laid_loop_example_g00660_impl_errNone), ("loop.example/g00660/impl.errThere", laid_loop_example_g00660_impl_errThere), ("loop.example/g00660/impl.errFull", laid_loop_example_g00660_impl_errFull)], narrowed := true }
def FnIssueUptoSaid : Prop := fnIssueUptoRow.holds Tryz.pinned (OpenSpec.upto fnIssueSpec)

end Rows
end Go.Proofs.YtjokbaaommicmaaGreatDoor
