/-
  NARROWER THAN 'FOR EVERY INPUT', by the rows' own cells (each row's printed sentence says how): FnIssue: ifaces, laid · FnEffect: ifaces, laid · FnOthers: ifaces, laid · FnUndone: ifaces, laid · FnClear: ifaces, laid · FnSetTwice: ifaces, laid · FnUndoOwn: ifaces, laid · FnNewest: ifaces, laid · FnAllUndone: ifaces, laid · FnSaveBack: ifaces, laid · FnRemoveAdd: ifaces, laid · FnToggledTwice: ifaces, laid.
  DERIVED. THE GIVEN ROWS OF THIS SEAT. 12 by the template 'for every input the law returns true; each argument reads behind the call as it read before'; 0 by the template 'total and deterministic' (their statements: YthkagbnpcjidfaaGreatDoorTotals.lean).
  GIVEN WITH THE SEED: the statements are not yours to turn. If you find one false, say at which input.
  Laid BY PROGRAM, IN A SANDBOX (cutbox-rows.mjs): the forced cells as the released guide's own fill.sh prints them over the translation 2841a92a2942b6d0… (all of the seat's roots in one cut). By AI agents, Wed Nov 11 2026. No macro, syntax, notation, axiom, sorry.
-/
import Derived.Test.YthkagbnpcjidfaaGreatDoorChecked
import GoSem.Claim
import GoSem.ClaimJoined
import GoSem.ClaimMapViews
import Derived.JoinedTies
import Derived.KernelRfl
namespace Go.Proofs.YthkagbnpcjidfaaGreatDoor
/- THE CELL 'sum', in the pinned program and in every row, IS THE sha256 OF THE DUMP (.gsa) THAT YthkagbnpcjidfaaGreatDoorProg.lean LOADS. Nothing in Lean hashes anything: it is a label: what it is worth is what the hold of that sum in a sandbox is worth. -/
noncomputable def Tryz.pinned : Pinned := { name := "ythkagbnpcjidfaagreatdoor", sum := "2841a92a2942b6d03cec7718c860f86e4040d033c58f1f4103877bb54635facf", checked := Tryz.checked }
namespace Rows
def none {H : Type} : Left H := { results := [], args := [] }

/- WHAT THE LISTED PACKAGE-LEVEL VARIABLES READ AS WHEN THE CALL BEGINS. Each datum BY PROGRAM (the guide's laid-datum.mjs) off the statement by which the dump's own 'gosem.cut.vars' lays the variable. In a bare row this is a premise. The card (YthkagbnpcjidfaaGreatDoorCards.lean) ties it to the program's text. -/
def laid_errors_errorType {H : Type} : DataW H := .iface "internal/reflectlite.rtype" (.agg [.ptr (.lit (.string [101, 114, 114, 111, 114]))])
def laid_loop_example_g00660_impl_errForm {H : Type} : DataW H := .iface "*errors.errorString" (.ptr (.agg [.lit (.string [116, 104, 101, 32, 99, 97, 114, 116, 44, 32, 116, 104, 101, 32, 100, 101, 118, 105, 99, 101, 32, 111, 114, 32, 116, 104, 101, 32, 99, 111, 109, 109, 97, 110, 100, 32, 105, 115, 32, 110, 111, 116, 32, 118, 97, 108, 105, 100])]))
def laid_loop_example_g00660_impl_errNone {H : Type} : DataW H := .iface "*errors.errorString" (.ptr (.agg [.lit (.string [116, 104, 101, 114, 101, 32, 105, 115, 32, 110, 111, 116, 104, 105, 110, 103, 32, 116, 104, 97, 116, 32, 116, 104, 101, 32, 99, 111, 109, 109, 97, 110, 100, 32, 99, 111, 117, 108, 100, 32, 99, 104, 97, 110, 103, 101])]))
def laid_loop_example_g00660_impl_errThere {H : Type} : DataW H := .iface "*errors.errorString" (.ptr (.agg [.lit (.string [116, 104, 101, 32, 105, 116, 101, 109, 32, 105, 115, 32, 112, 114, 101, 115, 101, 110, 116])]))
def laid_loop_example_g00660_impl_errFull {H : Type} : DataW H := .iface "*errors.errorString" (.ptr (.agg [.lit (.string [97, 32, 108, 105, 109, 105, 116, 32, 105, 115, 32, 114, 101, 97, 99, 104, 101, 100])]))

/-- 'laws.FnIssue': WHATEVER THE INPUT: true; the input reads as it did. -/
def fnIssueSpec : ChangeSpec := { name := "fnIssue", vars := ["loop.example/g00660/impl.errForm", "loop.example/g00660/impl.errNone", "loop.example/g00660/impl.errThere", "loop.example/g00660/impl.errFull"], fn := fun _ => fun
  | [d, g1, g2, g3, g4] => { results := [.lit (.bool true)], args := [d], vars := [g1, g2, g3, g4] }
  | _ => none }
def fnIssueRow : OpenClaim := { program := "ythkagbnpcjidfaagreatdoor", sum := "2841a92a2942b6d03cec7718c860f86e4040d033c58f1f4103877bb54635facf", func := "loop.example/g00660/laws.FnIssue", spec := "fnIssue", inPlace := ["slices.overlaps[loop.example/g00660/impl.Op]", "internal/reflectlite.ValueOf", "(internal/reflectlite.Value).Type", "(internal/reflectlite.Value).IsNil", "internal/reflectlite.TypeOf", "(internal/reflectlite.Value).Elem", "(internal/reflectlite.Value).Set"], unfollowed := true, recurses := true, named := ["loop.example/g00660/impl.errForm", "loop.example/g00660/impl.errNone", "loop.example/g00660/impl.errThere", "loop.example/g00660/impl.errFull", "errors.errorType"], ifaces := true, plainKeys := false, apart := false, laid := [("errors.errorType", laid_errors_errorType), ("loop.example/g00660/impl.errForm", laid_loop_example_g00660_impl_errForm), ("loop.example/g00660/impl.errNone", laid_loop_example_g00660_impl_errNone), ("loop.example/g00660/impl.errThere", laid_loop_example_g00660_impl_errThere), ("loop.example/g00660/impl.errFull", laid_loop_example_g00660_impl_errFull)] }
def FnIssueSaid : Prop := fnIssueRow.holds Tryz.pinned (OpenSpec.ofChange fnIssueSpec)

/-- ITS FALSE NEIGHBOUR: 'it returns false'. Refute it at one input. -/
def fnIssueWrong : ChangeSpec := { name := "fnIssue", vars := ["loop.example/g00660/impl.errForm", "loop.example/g00660/impl.errNone", "loop.example/g00660/impl.errThere", "loop.example/g00660/impl.errFull"], fn := fun _ => fun
  | [d, g1, g2, g3, g4] => { results := [.lit (.bool false)], args := [d], vars := [g1, g2, g3, g4] }
  | _ => none }
def FnIssueWrongFalsely : Prop := fnIssueRow.holds Tryz.pinned (OpenSpec.ofChange fnIssueWrong)

/-- 'laws.FnEffect': WHATEVER THE INPUT: true; the input reads as it did. -/
def fnEffectSpec : ChangeSpec := { name := "fnEffect", vars := ["loop.example/g00660/impl.errForm", "loop.example/g00660/impl.errNone", "loop.example/g00660/impl.errThere", "loop.example/g00660/impl.errFull"], fn := fun _ => fun
  | [d, g1, g2, g3, g4] => { results := [.lit (.bool true)], args := [d], vars := [g1, g2, g3, g4] }
  | _ => none }
def fnEffectRow : OpenClaim := { program := "ythkagbnpcjidfaagreatdoor", sum := "2841a92a2942b6d03cec7718c860f86e4040d033c58f1f4103877bb54635facf", func := "loop.example/g00660/laws.FnEffect", spec := "fnEffect", inPlace := ["slices.overlaps[loop.example/g00660/impl.Op]", "internal/reflectlite.ValueOf", "(internal/reflectlite.Value).Type", "(internal/reflectlite.Value).IsNil", "internal/reflectlite.TypeOf", "(internal/reflectlite.Value).Elem", "(internal/reflectlite.Value).Set"], unfollowed := true, recurses := true, named := ["loop.example/g00660/impl.errForm", "loop.example/g00660/impl.errNone", "loop.example/g00660/impl.errThere", "loop.example/g00660/impl.errFull", "errors.errorType"], ifaces := true, plainKeys := false, apart := false, laid := [("errors.errorType", laid_errors_errorType), ("loop.example/g00660/impl.errForm", laid_loop_example_g00660_impl_errForm), ("loop.example/g00660/impl.errNone", laid_loop_example_g00660_impl_errNone), ("loop.example/g00660/impl.errThere", laid_loop_example_g00660_impl_errThere), ("loop.example/g00660/impl.errFull", laid_loop_example_g00660_impl_errFull)] }
def FnEffectSaid : Prop := fnEffectRow.holds Tryz.pinned (OpenSpec.ofChange fnEffectSpec)

/-- ITS FALSE NEIGHBOUR: 'it returns false'. Refute it at one input. -/
def fnEffectWrong : ChangeSpec := { name := "fnEffect", vars := ["loop.example/g00660/impl.errForm", "loop.example/g00660/impl.errNone", "loop.example/g00660/impl.errThere", "loop.example/g00660/impl.errFull"], fn := fun _ => fun
  | [d, g1, g2, g3, g4] => { results := [.lit (.bool false)], args := [d], vars := [g1, g2, g3, g4] }
  | _ => none }
def FnEffectWrongFalsely : Prop := fnEffectRow.holds Tryz.pinned (OpenSpec.ofChange fnEffectWrong)

/-- 'laws.FnOthers': WHATEVER THE INPUT: true; the input reads as it did. -/
def fnOthersSpec : ChangeSpec := { name := "fnOthers", vars := ["loop.example/g00660/impl.errForm", "loop.example/g00660/impl.errNone", "loop.example/g00660/impl.errThere", "loop.example/g00660/impl.errFull"], fn := fun _ => fun
  | [d, g1, g2, g3, g4] => { results := [.lit (.bool true)], args := [d], vars := [g1, g2, g3, g4] }
  | _ => none }
def fnOthersRow : OpenClaim := { program := "ythkagbnpcjidfaagreatdoor", sum := "2841a92a2942b6d03cec7718c860f86e4040d033c58f1f4103877bb54635facf", func := "loop.example/g00660/laws.FnOthers", spec := "fnOthers", inPlace := ["slices.overlaps[loop.example/g00660/impl.Op]", "internal/reflectlite.ValueOf", "(internal/reflectlite.Value).Type", "(internal/reflectlite.Value).IsNil", "internal/reflectlite.TypeOf", "(internal/reflectlite.Value).Elem", "(internal/reflectlite.Value).Set"], unfollowed := true, recurses := true, named := ["loop.example/g00660/impl.errForm", "loop.example/g00660/impl.errNone", "loop.example/g00660/impl.errThere", "loop.example/g00660/impl.errFull", "errors.errorType"], ifaces := true, plainKeys := false, apart := false, laid := [("errors.errorType", laid_errors_errorType), ("loop.example/g00660/impl.errForm", laid_loop_example_g00660_impl_errForm), ("loop.example/g00660/impl.errNone", laid_loop_example_g00660_impl_errNone), ("loop.example/g00660/impl.errThere", laid_loop_example_g00660_impl_errThere), ("loop.example/g00660/impl.errFull", laid_loop_example_g00660_impl_errFull)] }
def FnOthersSaid : Prop := fnOthersRow.holds Tryz.pinned (OpenSpec.ofChange fnOthersSpec)

/-- ITS FALSE NEIGHBOUR: 'it returns false'. Refute it at one input. -/
def fnOthersWrong : ChangeSpec := { name := "fnOthers", vars := ["loop.example/g00660/impl.errForm", "loop.example/g00660/impl.errNone", "loop.example/g00660/impl.errThere", "loop.example/g00660/impl.errFull"], fn := fun _ => fun
  | [d, g1, g2, g3, g4] => { results := [.lit (.bool false)], args := [d], vars := [g1, g2, g3, g4] }
  | _ => none }
def FnOthersWrongFalsely : Prop := fnOthersRow.holds Tryz.pinned (OpenSpec.ofChange fnOthersWrong)

/-- 'laws.FnUndone': WHATEVER THE INPUT: true; the input reads as it did. -/
def fnUndoneSpec : ChangeSpec := { name := "fnUndone", vars := ["loop.example/g00660/impl.errForm", "loop.example/g00660/impl.errNone", "loop.example/g00660/impl.errThere", "loop.example/g00660/impl.errFull"], fn := fun _ => fun
  | [d, g1, g2, g3, g4] => { results := [.lit (.bool true)], args := [d], vars := [g1, g2, g3, g4] }
  | _ => none }
def fnUndoneRow : OpenClaim := { program := "ythkagbnpcjidfaagreatdoor", sum := "2841a92a2942b6d03cec7718c860f86e4040d033c58f1f4103877bb54635facf", func := "loop.example/g00660/laws.FnUndone", spec := "fnUndone", inPlace := ["slices.overlaps[loop.example/g00660/impl.Op]", "internal/reflectlite.ValueOf", "(internal/reflectlite.Value).Type", "(internal/reflectlite.Value).IsNil", "internal/reflectlite.TypeOf", "(internal/reflectlite.Value).Elem", "(internal/reflectlite.Value).Set"], unfollowed := true, recurses := true, named := ["loop.example/g00660/impl.errForm", "loop.example/g00660/impl.errNone", "loop.example/g00660/impl.errThere", "loop.example/g00660/impl.errFull", "errors.errorType"], ifaces := true, plainKeys := false, apart := false, laid := [("errors.errorType", laid_errors_errorType), ("loop.example/g00660/impl.errForm", laid_loop_example_g00660_impl_errForm), ("loop.example/g00660/impl.errNone", laid_loop_example_g00660_impl_errNone), ("loop.example/g00660/impl.errThere", laid_loop_example_g00660_impl_errThere), ("loop.example/g00660/impl.errFull", laid_loop_example_g00660_impl_errFull)] }
def FnUndoneSaid : Prop := fnUndoneRow.holds Tryz.pinned (OpenSpec.ofChange fnUndoneSpec)

/-- ITS FALSE NEIGHBOUR: 'it returns false'. Refute it at one input. -/
def fnUndoneWrong : ChangeSpec := { name := "fnUndone", vars := ["loop.example/g00660/impl.errForm", "loop.example/g00660/impl.errNone", "loop.example/g00660/impl.errThere", "loop.example/g00660/impl.errFull"], fn := fun _ => fun
  | [d, g1, g2, g3, g4] => { results := [.lit (.bool false)], args := [d], vars := [g1, g2, g3, g4] }
  | _ => none }
def FnUndoneWrongFalsely : Prop := fnUndoneRow.holds Tryz.pinned (OpenSpec.ofChange fnUndoneWrong)

/-- 'laws.FnClear': WHATEVER THE INPUT: true; the input reads as it did. -/
def fnClearSpec : ChangeSpec := { name := "fnClear", vars := ["loop.example/g00660/impl.errForm", "loop.example/g00660/impl.errNone", "loop.example/g00660/impl.errThere", "loop.example/g00660/impl.errFull"], fn := fun _ => fun
  | [d, g1, g2, g3, g4] => { results := [.lit (.bool true)], args := [d], vars := [g1, g2, g3, g4] }
  | _ => none }
def fnClearRow : OpenClaim := { program := "ythkagbnpcjidfaagreatdoor", sum := "2841a92a2942b6d03cec7718c860f86e4040d033c58f1f4103877bb54635facf", func := "loop.example/g00660/laws.FnClear", spec := "fnClear", inPlace := ["slices.overlaps[loop.example/g00660/impl.Op]", "internal/reflectlite.ValueOf", "(internal/reflectlite.Value).Type", "(internal/reflectlite.Value).IsNil", "internal/reflectlite.TypeOf", "(internal/reflectlite.Value).Elem", "(internal/reflectlite.Value).Set"], unfollowed := true, recurses := true, named := ["loop.example/g00660/impl.errForm", "loop.example/g00660/impl.errNone", "loop.example/g00660/impl.errThere", "loop.example/g00660/impl.errFull", "errors.errorType"], ifaces := true, plainKeys := false, apart := false, laid := [("errors.errorType", laid_errors_errorType), ("loop.example/g00660/impl.errForm", laid_loop_example_g00660_impl_errForm), ("loop.example/g00660/impl.errNone", laid_loop_example_g00660_impl_errNone), ("loop.example/g00660/impl.errThere", laid_loop_example_g00660_impl_errThere), ("loop.example/g00660/impl.errFull", laid_loop_example_g00660_impl_errFull)] }
def FnClearSaid : Prop := fnClearRow.holds Tryz.pinned (OpenSpec.ofChange fnClearSpec)

/-- ITS FALSE NEIGHBOUR: 'it returns false'. Refute it at one input. -/
def fnClearWrong : ChangeSpec := { name := "fnClear", vars := ["loop.example/g00660/impl.errForm", "loop.example/g00660/impl.errNone", "loop.example/g00660/impl.errThere", "loop.example/g00660/impl.errFull"], fn := fun _ => fun
  | [d, g1, g2, g3, g4] => { results := [.lit (.bool false)], args := [d], vars := [g1, g2, g3, g4] }
  | _ => none }
def FnClearWrongFalsely : Prop := fnClearRow.holds Tryz.pinned (OpenSpec.ofChange fnClearWrong)

/-- 'laws.FnSetTwice': WHATEVER THE INPUT: true; the input reads as it did. -/
def fnSetTwiceSpec : ChangeSpec := { name := "fnSetTwice", vars := ["loop.example/g00660/impl.errForm", "loop.example/g00660/impl.errNone", "loop.example/g00660/impl.errThere", "loop.example/g00660/impl.errFull"], fn := fun _ => fun
  | [d, g1, g2, g3, g4] => { results := [.lit (.bool true)], args := [d], vars := [g1, g2, g3, g4] }
  | _ => none }
def fnSetTwiceRow : OpenClaim := { program := "ythkagbnpcjidfaagreatdoor", sum := "2841a92a2942b6d03cec7718c860f86e4040d033c58f1f4103877bb54635facf", func := "loop.example/g00660/laws.FnSetTwice", spec := "fnSetTwice", inPlace := ["slices.overlaps[loop.example/g00660/impl.Op]", "internal/reflectlite.ValueOf", "(internal/reflectlite.Value).Type", "(internal/reflectlite.Value).IsNil", "internal/reflectlite.TypeOf", "(internal/reflectlite.Value).Elem", "(internal/reflectlite.Value).Set"], unfollowed := true, recurses := true, named := ["loop.example/g00660/impl.errForm", "loop.example/g00660/impl.errNone", "loop.example/g00660/impl.errThere", "loop.example/g00660/impl.errFull", "errors.errorType"], ifaces := true, plainKeys := false, apart := false, laid := [("errors.errorType", laid_errors_errorType), ("loop.example/g00660/impl.errForm", laid_loop_example_g00660_impl_errForm), ("loop.example/g00660/impl.errNone", laid_loop_example_g00660_impl_errNone), ("loop.example/g00660/impl.errThere", laid_loop_example_g00660_impl_errThere), ("loop.example/g00660/impl.errFull", laid_loop_example_g00660_impl_errFull)] }
def FnSetTwiceSaid : Prop := fnSetTwiceRow.holds Tryz.pinned (OpenSpec.ofChange fnSetTwiceSpec)

/-- ITS FALSE NEIGHBOUR: 'it returns false'. Refute it at one input. -/
def fnSetTwiceWrong : ChangeSpec := { name := "fnSetTwice", vars := ["loop.example/g00660/impl.errForm", "loop.example/g00660/impl.errNone", "loop.example/g00660/impl.errThere", "loop.example/g00660/impl.errFull"], fn := fun _ => fun
  | [d, g1, g2, g3, g4] => { results := [.lit (.bool false)], args := [d], vars := [g1, g2, g3, g4] }
  | _ => none }
def FnSetTwiceWrongFalsely : Prop := fnSetTwiceRow.holds Tryz.pinned (OpenSpec.ofChange fnSetTwiceWrong)

/-- 'laws.FnUndoOwn': WHATEVER THE INPUT: true; the input reads as it did. -/
def fnUndoOwnSpec : ChangeSpec := { name := "fnUndoOwn", vars := ["loop.example/g00660/impl.errForm", "loop.example/g00660/impl.errNone", "loop.example/g00660/impl.errThere", "loop.example/g00660/impl.errFull"], fn := fun _ => fun
  | [d, g1, g2, g3, g4] => { results := [.lit (.bool true)], args := [d], vars := [g1, g2, g3, g4] }
  | _ => none }
def fnUndoOwnRow : OpenClaim := { program := "ythkagbnpcjidfaagreatdoor", sum := "2841a92a2942b6d03cec7718c860f86e4040d033c58f1f4103877bb54635facf", func := "loop.example/g00660/laws.FnUndoOwn", spec := "fnUndoOwn", inPlace := ["slices.overlaps[loop.example/g00660/impl.Op]", "internal/reflectlite.ValueOf", "(internal/reflectlite.Value).Type", "(internal/reflectlite.Value).IsNil", "internal/reflectlite.TypeOf", "(internal/reflectlite.Value).Elem", "(internal/reflectlite.Value).Set"], unfollowed := true, recurses := true, named := ["loop.example/g00660/impl.errForm", "loop.example/g00660/impl.errNone", "loop.example/g00660/impl.errThere", "loop.example/g00660/impl.errFull", "errors.errorType"], ifaces := true, plainKeys := false, apart := false, laid := [("errors.errorType", laid_errors_errorType), ("loop.example/g00660/impl.errForm", laid_loop_example_g00660_impl_errForm), ("loop.example/g00660/impl.errNone", laid_loop_example_g00660_impl_errNone), ("loop.example/g00660/impl.errThere", laid_loop_example_g00660_impl_errThere), ("loop.example/g00660/impl.errFull", laid_loop_example_g00660_impl_errFull)] }
def FnUndoOwnSaid : Prop := fnUndoOwnRow.holds Tryz.pinned (OpenSpec.ofChange fnUndoOwnSpec)

/-- ITS FALSE NEIGHBOUR: 'it returns false'. Refute it at one input. -/
def fnUndoOwnWrong : ChangeSpec := { name := "fnUndoOwn", vars := ["loop.example/g00660/impl.errForm", "loop.example/g00660/impl.errNone", "loop.example/g00660/impl.errThere", "loop.example/g00660/impl.errFull"], fn := fun _ => fun
  | [d, g1, g2, g3, g4] => { results := [.lit (.bool false)], args := [d], vars := [g1, g2, g3, g4] }
  | _ => none }
def FnUndoOwnWrongFalsely : Prop := fnUndoOwnRow.holds Tryz.pinned (OpenSpec.ofChange fnUndoOwnWrong)

/-- 'laws.FnNewest': WHATEVER THE INPUT: true; the input reads as it did. -/
def fnNewestSpec : ChangeSpec := { name := "fnNewest", vars := ["loop.example/g00660/impl.errForm", "loop.example/g00660/impl.errNone", "loop.example/g00660/impl.errThere", "loop.example/g00660/impl.errFull"], fn := fun _ => fun
  | [d, g1, g2, g3, g4] => { results := [.lit (.bool true)], args := [d], vars := [g1, g2, g3, g4] }
  | _ => none }
def fnNewestRow : OpenClaim := { program := "ythkagbnpcjidfaagreatdoor", sum := "2841a92a2942b6d03cec7718c860f86e4040d033c58f1f4103877bb54635facf", func := "loop.example/g00660/laws.FnNewest", spec := "fnNewest", inPlace := ["slices.overlaps[loop.example/g00660/impl.Op]", "internal/reflectlite.ValueOf", "(internal/reflectlite.Value).Type", "(internal/reflectlite.Value).IsNil", "internal/reflectlite.TypeOf", "(internal/reflectlite.Value).Elem", "(internal/reflectlite.Value).Set"], unfollowed := true, recurses := true, named := ["loop.example/g00660/impl.errForm", "loop.example/g00660/impl.errNone", "loop.example/g00660/impl.errThere", "loop.example/g00660/impl.errFull", "errors.errorType"], ifaces := true, plainKeys := false, apart := false, laid := [("errors.errorType", laid_errors_errorType), ("loop.example/g00660/impl.errForm", laid_loop_example_g00660_impl_errForm), ("loop.example/g00660/impl.errNone", laid_loop_example_g00660_impl_errNone), ("loop.example/g00660/impl.errThere", laid_loop_example_g00660_impl_errThere), ("loop.example/g00660/impl.errFull", laid_loop_example_g00660_impl_errFull)] }
def FnNewestSaid : Prop := fnNewestRow.holds Tryz.pinned (OpenSpec.ofChange fnNewestSpec)

/-- ITS FALSE NEIGHBOUR: 'it returns false'. Refute it at one input. -/
def fnNewestWrong : ChangeSpec := { name := "fnNewest", vars := ["loop.example/g00660/impl.errForm", "loop.example/g00660/impl.errNone", "loop.example/g00660/impl.errThere", "loop.example/g00660/impl.errFull"], fn := fun _ => fun
  | [d, g1, g2, g3, g4] => { results := [.lit (.bool false)], args := [d], vars := [g1, g2, g3, g4] }
  | _ => none }
def FnNewestWrongFalsely : Prop := fnNewestRow.holds Tryz.pinned (OpenSpec.ofChange fnNewestWrong)

/-- 'laws.FnAllUndone': WHATEVER THE INPUT: true; the input reads as it did. -/
def fnAllUndoneSpec : ChangeSpec := { name := "fnAllUndone", vars := ["loop.example/g00660/impl.errForm", "loop.example/g00660/impl.errNone", "loop.example/g00660/impl.errThere", "loop.example/g00660/impl.errFull"], fn := fun _ => fun
  | [d, g1, g2, g3, g4] => { results := [.lit (.bool true)], args := [d], vars := [g1, g2, g3, g4] }
  | _ => none }
def fnAllUndoneRow : OpenClaim := { program := "ythkagbnpcjidfaagreatdoor", sum := "2841a92a2942b6d03cec7718c860f86e4040d033c58f1f4103877bb54635facf", func := "loop.example/g00660/laws.FnAllUndone", spec := "fnAllUndone", inPlace := ["slices.overlaps[loop.example/g00660/impl.Op]", "internal/reflectlite.ValueOf", "(internal/reflectlite.Value).Type", "(internal/reflectlite.Value).IsNil", "internal/reflectlite.TypeOf", "(internal/reflectlite.Value).Elem", "(internal/reflectlite.Value).Set"], unfollowed := true, recurses := true, named := ["loop.example/g00660/impl.errForm", "loop.example/g00660/impl.errNone", "loop.example/g00660/impl.errThere", "loop.example/g00660/impl.errFull", "errors.errorType"], ifaces := true, plainKeys := false, apart := false, laid := [("errors.errorType", laid_errors_errorType), ("loop.example/g00660/impl.errForm", laid_loop_example_g00660_impl_errForm), ("loop.example/g00660/impl.errNone", laid_loop_example_g00660_impl_errNone), ("loop.example/g00660/impl.errThere", laid_loop_example_g00660_impl_errThere), ("loop.example/g00660/impl.errFull", laid_loop_example_g00660_impl_errFull)] }
def FnAllUndoneSaid : Prop := fnAllUndoneRow.holds Tryz.pinned (OpenSpec.ofChange fnAllUndoneSpec)

/-- ITS FALSE NEIGHBOUR: 'it returns false'. Refute it at one input. -/
def fnAllUndoneWrong : ChangeSpec := { name := "fnAllUndone", vars := ["loop.example/g00660/impl.errForm", "loop.example/g00660/impl.errNone", "loop.example/g00660/impl.errThere", "loop.example/g00660/impl.errFull"], fn := fun _ => fun
  | [d, g1, g2, g3, g4] => { results := [.lit (.bool false)], args := [d], vars := [g1, g2, g3, g4] }
  | _ => none }
def FnAllUndoneWrongFalsely : Prop := fnAllUndoneRow.holds Tryz.pinned (OpenSpec.ofChange fnAllUndoneWrong)

/-- 'laws.FnSaveBack': WHATEVER THE INPUT: true; the input reads as it did. -/
def fnSaveBackSpec : ChangeSpec := { name := "fnSaveBack", vars := ["loop.example/g00660/impl.errForm", "loop.example/g00660/impl.errNone", "loop.example/g00660/impl.errThere", "loop.example/g00660/impl.errFull"], fn := fun _ => fun
  | [d, g1, g2, g3, g4] => { results := [.lit (.bool true)], args := [d], vars := [g1, g2, g3, g4] }
  | _ => none }
def fnSaveBackRow : OpenClaim := { program := "ythkagbnpcjidfaagreatdoor", sum := "2841a92a2942b6d03cec7718c860f86e4040d033c58f1f4103877bb54635facf", func := "loop.example/g00660/laws.FnSaveBack", spec := "fnSaveBack", inPlace := ["slices.overlaps[loop.example/g00660/impl.Op]", "internal/reflectlite.ValueOf", "(internal/reflectlite.Value).Type", "(internal/reflectlite.Value).IsNil", "internal/reflectlite.TypeOf", "(internal/reflectlite.Value).Elem", "(internal/reflectlite.Value).Set"], unfollowed := true, recurses := true, named := ["loop.example/g00660/impl.errForm", "loop.example/g00660/impl.errNone", "loop.example/g00660/impl.errThere", "loop.example/g00660/impl.errFull", "errors.errorType"], ifaces := true, plainKeys := false, apart := false, laid := [("errors.errorType", laid_errors_errorType), ("loop.example/g00660/impl.errForm", laid_loop_example_g00660_impl_errForm), ("loop.example/g00660/impl.errNone", laid_loop_example_g00660_impl_errNone), ("loop.example/g00660/impl.errThere", laid_loop_example_g00660_impl_errThere), ("loop.example/g00660/impl.errFull", laid_loop_example_g00660_impl_errFull)] }
def FnSaveBackSaid : Prop := fnSaveBackRow.holds Tryz.pinned (OpenSpec.ofChange fnSaveBackSpec)

/-- ITS FALSE NEIGHBOUR: 'it returns false'. Refute it at one input. -/
def fnSaveBackWrong : ChangeSpec := { name := "fnSaveBack", vars := ["loop.example/g00660/impl.errForm", "loop.example/g00660/impl.errNone", "loop.example/g00660/impl.errThere", "loop.example/g00660/impl.errFull"], fn := fun _ => fun
  | [d, g1, g2, g3, g4] => { results := [.lit (.bool false)], args := [d], vars := [g1, g2, g3, g4] }
  | _ => none }
def FnSaveBackWrongFalsely : Prop := fnSaveBackRow.holds Tryz.pinned (OpenSpec.ofChange fnSaveBackWrong)

/-- 'laws.FnRemoveAdd': WHATEVER THE INPUT: true; the input reads as it did. -/
def fnRemoveAddSpec : ChangeSpec := { name := "fnRemoveAdd", vars := ["loop.example/g00660/impl.errForm", "loop.example/g00660/impl.errNone", "loop.example/g00660/impl.errThere", "loop.example/g00660/impl.errFull"], fn := fun _ => fun
  | [d, g1, g2, g3, g4] => { results := [.lit (.bool true)], args := [d], vars := [g1, g2, g3, g4] }
  | _ => none }
def fnRemoveAddRow : OpenClaim := { program := "ythkagbnpcjidfaagreatdoor", sum := "2841a92a2942b6d03cec7718c860f86e4040d033c58f1f4103877bb54635facf", func := "loop.example/g00660/laws.FnRemoveAdd", spec := "fnRemoveAdd", inPlace := ["slices.overlaps[loop.example/g00660/impl.Op]", "internal/reflectlite.ValueOf", "(internal/reflectlite.Value).Type", "(internal/reflectlite.Value).IsNil", "internal/reflectlite.TypeOf", "(internal/reflectlite.Value).Elem", "(internal/reflectlite.Value).Set"], unfollowed := true, recurses := true, named := ["loop.example/g00660/impl.errForm", "loop.example/g00660/impl.errNone", "loop.example/g00660/impl.errThere", "loop.example/g00660/impl.errFull", "errors.errorType"], ifaces := true, plainKeys := false, apart := false, laid := [("errors.errorType", laid_errors_errorType), ("loop.example/g00660/impl.errForm", laid_loop_example_g00660_impl_errForm), ("loop.example/g00660/impl.errNone", laid_loop_example_g00660_impl_errNone), ("loop.example/g00660/impl.errThere", laid_loop_example_g00660_impl_errThere), ("loop.example/g00660/impl.errFull", laid_loop_example_g00660_impl_errFull)] }
def FnRemoveAddSaid : Prop := fnRemoveAddRow.holds Tryz.pinned (OpenSpec.ofChange fnRemoveAddSpec)

/-- ITS FALSE NEIGHBOUR: 'it returns false'. Refute it at one input. -/
def fnRemoveAddWrong : ChangeSpec := { name := "fnRemoveAdd", vars := ["loop.example/g00660/impl.errForm", "loop.example/g00660/impl.errNone", "loop.example/g00660/impl.errThere", "loop.example/g00660/impl.errFull"], fn := fun _ => fun
  | [d, g1, g2, g3, g4] => { results := [.lit (.bool false)], args := [d], vars := [g1, g2, g3, g4] }
  | _ => none }
def FnRemoveAddWrongFalsely : Prop := fnRemoveAddRow.holds Tryz.pinned (OpenSpec.ofChange fnRemoveAddWrong)

/-- 'laws.FnToggledTwice': WHATEVER THE INPUT: true; the input reads as it did. -/
def fnToggledTwiceSpec : ChangeSpec := { name := "fnToggledTwice", vars := ["loop.example/g00660/impl.errForm", "loop.example/g00660/impl.errNone", "loop.example/g00660/impl.errThere", "loop.example/g00660/impl.errFull"], fn := fun _ => fun
  | [d, g1, g2, g3, g4] => { results := [.lit (.bool true)], args := [d], vars := [g1, g2, g3, g4] }
  | _ => none }
def fnToggledTwiceRow : OpenClaim := { program := "ythkagbnpcjidfaagreatdoor", sum := "2841a92a2942b6d03cec7718c860f86e4040d033c58f1f4103877bb54635facf", func := "loop.example/g00660/laws.FnToggledTwice", spec := "fnToggledTwice", inPlace := ["slices.overlaps[loop.example/g00660/impl.Op]", "internal/reflectlite.ValueOf", "(internal/reflectlite.Value).Type", "(internal/reflectlite.Value).IsNil", "internal/reflectlite.TypeOf", "(internal/reflectlite.Value).Elem", "(internal/reflectlite.Value).Set"], unfollowed := true, recurses := true, named := ["loop.example/g00660/impl.errForm", "loop.example/g00660/impl.errNone", "loop.example/g00660/impl.errThere", "loop.example/g00660/impl.errFull", "errors.errorType"], ifaces := true, plainKeys := false, apart := false, laid := [("errors.errorType", laid_errors_errorType), ("loop.example/g00660/impl.errForm", laid_loop_example_g00660_impl_errForm), ("loop.example/g00660/impl.errNone", laid_loop_example_g00660_impl_errNone), ("loop.example/g00660/impl.errThere", laid_loop_example_g00660_impl_errThere), ("loop.example/g00660/impl.errFull", laid_loop_example_g00660_impl_errFull)] }
def FnToggledTwiceSaid : Prop := fnToggledTwiceRow.holds Tryz.pinned (OpenSpec.ofChange fnToggledTwiceSpec)

/-- ITS FALSE NEIGHBOUR: 'it returns false'. Refute it at one input. -/
def fnToggledTwiceWrong : ChangeSpec := { name := "fnToggledTwice", vars := ["loop.example/g00660/impl.errForm", "loop.example/g00660/impl.errNone", "loop.example/g00660/impl.errThere", "loop.example/g00660/impl.errFull"], fn := fun _ => fun
  | [d, g1, g2, g3, g4] => { results := [.lit (.bool false)], args := [d], vars := [g1, g2, g3, g4] }
  | _ => none }
def FnToggledTwiceWrongFalsely : Prop := fnToggledTwiceRow.holds Tryz.pinned (OpenSpec.ofChange fnToggledTwiceWrong)

/- THE SECOND FORM. 'bulk': how many values and letters a reading holds, each counted each time it is reached (what is shared counts as often as it is met; a slice's spare places count too). A statement '..UptoSaid' is the law's where the arguments, and the package variables that the reading takes, are together of bulk at most 1048576: NARROWER than '..Said'. Prove '..Said' where nothing that the law and all that it calls make is longer than what came in: it says more and counts as full. Else prove '..UptoSaid'. A law counts once. -/
mutual
def uptoBulk {H : Type} : DataW H → Nat
  | .lit (.string bytes) => bytes.length + 1
  | .lit _ => 1
  | .nil => 1
  | .ptr d => uptoBulk d + 1
  | .slice elems spare => uptoBulkAll elems + uptoBulkAll spare + 1
  | .agg parts => uptoBulkAll parts + 1
  | .iface _ d => uptoBulk d + 1
  | .map entries => uptoBulkEntries entries + 1
  | .held _ => 1
def uptoBulkAll {H : Type} : List (DataW H) → Nat
  | [] => 0
  | d :: r => uptoBulk d + uptoBulkAll r
def uptoBulkEntries {H : Type} : List (Lit × DataW H) → Nat
  | [] => 0
  | x :: r => uptoBulkEntry x + uptoBulkEntries r
def uptoBulkEntry {H : Type} : Lit × DataW H → Nat
  | (.string bytes, d) => bytes.length + uptoBulk d + 1
  | (_, d) => uptoBulk d + 1
 end
def uptoSmall : (H : Type) → List (DataW H) → Bool := fun _ ds => decide (uptoBulkAll ds ≤ 1048576)
def OpenSpec.upto (s : _root_.Go.ChangeSpec) : _root_.Go.OpenSpec := { _root_.Go.OpenSpec.ofChange s with cond := some uptoSmall }

/-- 'laws.FnIssue', WHERE WHAT IT READS IS OF BULK AT MOST 1048576: true; the input reads as it did. -/
def fnIssueUptoRow : OpenClaim := { program := "ythkagbnpcjidfaagreatdoor", sum := "2841a92a2942b6d03cec7718c860f86e4040d033c58f1f4103877bb54635facf", func := "loop.example/g00660/laws.FnIssue", spec := "fnIssue", inPlace := ["slices.overlaps[loop.example/g00660/impl.Op]", "internal/reflectlite.ValueOf", "(internal/reflectlite.Value).Type", "(internal/reflectlite.Value).IsNil", "internal/reflectlite.TypeOf", "(internal/reflectlite.Value).Elem", "(internal/reflectlite.Value).Set"], unfollowed := true, recurses := true, named := ["loop.example/g00660/impl.errForm", "loop.example/g00660/impl.errNone", "loop.example/g00660/impl.errThere", "loop.example/g00660/impl.errFull", "errors.errorType"], ifaces := true, plainKeys := false, apart := false, laid := [("errors.errorType", laid_errors_errorType), ("loop.example/g00660/impl.errForm", laid_loop_example_g00660_impl_errForm), ("loop.example/g00660/impl.errNone", laid_loop_example_g00660_impl_errNone), ("loop.example/g00660/impl.errThere", laid_loop_example_g00660_impl_errThere), ("loop.example/g00660/impl.errFull", laid_loop_example_g00660_impl_errFull)], narrowed := true }
def FnIssueUptoSaid : Prop := fnIssueUptoRow.holds Tryz.pinned (OpenSpec.upto fnIssueSpec)

/-- 'laws.FnEffect', WHERE WHAT IT READS IS OF BULK AT MOST 1048576: true; the input reads as it did. -/
def fnEffectUptoRow : OpenClaim := { program := "ythkagbnpcjidfaagreatdoor", sum := "2841a92a2942b6d03cec7718c860f86e4040d033c58f1f4103877bb54635facf", func := "loop.example/g00660/laws.FnEffect", spec := "fnEffect", inPlace := ["slices.overlaps[loop.example/g00660/impl.Op]", "internal/reflectlite.ValueOf", "(internal/reflectlite.Value).Type", "(internal/reflectlite.Value).IsNil", "internal/reflectlite.TypeOf", "(internal/reflectlite.Value).Elem", "(internal/reflectlite.Value).Set"], unfollowed := true, recurses := true, named := ["loop.example/g00660/impl.errForm", "loop.example/g00660/impl.errNone", "loop.example/g00660/impl.errThere", "loop.example/g00660/impl.errFull", "errors.errorType"], ifaces := true, plainKeys := false, apart := false, laid := [("errors.errorType", laid_errors_errorType), ("loop.example/g00660/impl.errForm", laid_loop_example_g00660_impl_errForm), ("loop.example/g00660/impl.errNone", laid_loop_example_g00660_impl_errNone), ("loop.example/g00660/impl.errThere", laid_loop_example_g00660_impl_errThere), ("loop.example/g00660/impl.errFull", laid_loop_example_g00660_impl_errFull)], narrowed := true }
def FnEffectUptoSaid : Prop := fnEffectUptoRow.holds Tryz.pinned (OpenSpec.upto fnEffectSpec)

/-- 'laws.FnOthers', WHERE WHAT IT READS IS OF BULK AT MOST 1048576: true; the input reads as it did. -/
def fnOthersUptoRow : OpenClaim := { program := "ythkagbnpcjidfaagreatdoor", sum := "2841a92a2942b6d03cec7718c860f86e4040d033c58f1f4103877bb54635facf", func := "loop.example/g00660/laws.FnOthers", spec := "fnOthers", inPlace := ["slices.overlaps[loop.example/g00660/impl.Op]", "internal/reflectlite.ValueOf", "(internal/reflectlite.Value).Type", "(internal/reflectlite.Value).IsNil", "internal/reflectlite.TypeOf", "(internal/reflectlite.Value).Elem", "(internal/reflectlite.Value).Set"], unfollowed := true, recurses := true, named := ["loop.example/g00660/impl.errForm", "loop.example/g00660/impl.errNone", "loop.example/g00660/impl.errThere", "loop.example/g00660/impl.errFull", "errors.errorType"], ifaces := true, plainKeys := false, apart := false, laid := [("errors.errorType", laid_errors_errorType), ("loop.example/g00660/impl.errForm", laid_loop_example_g00660_impl_errForm), ("loop.example/g00660/impl.errNone", laid_loop_example_g00660_impl_errNone), ("loop.example/g00660/impl.errThere", laid_loop_example_g00660_impl_errThere), ("loop.example/g00660/impl.errFull", laid_loop_example_g00660_impl_errFull)], narrowed := true }
def FnOthersUptoSaid : Prop := fnOthersUptoRow.holds Tryz.pinned (OpenSpec.upto fnOthersSpec)

/-- 'laws.FnUndone', WHERE WHAT IT READS IS OF BULK AT MOST 1048576: true; the input reads as it did. -/
def fnUndoneUptoRow : OpenClaim := { program := "ythkagbnpcjidfaagreatdoor", sum := "2841a92a2942b6d03cec7718c860f86e4040d033c58f1f4103877bb54635facf", func := "loop.example/g00660/laws.FnUndone", spec := "fnUndone", inPlace := ["slices.overlaps[loop.example/g00660/impl.Op]", "internal/reflectlite.ValueOf", "(internal/reflectlite.Value).Type", "(internal/reflectlite.Value).IsNil", "internal/reflectlite.TypeOf", "(internal/reflectlite.Value).Elem", "(internal/reflectlite.Value).Set"], unfollowed := true, recurses := true, named := ["loop.example/g00660/impl.errForm", "loop.example/g00660/impl.errNone", "loop.example/g00660/impl.errThere", "loop.example/g00660/impl.errFull", "errors.errorType"], ifaces := true, plainKeys := false, apart := false, laid := [("errors.errorType", laid_errors_errorType), ("loop.example/g00660/impl.errForm", laid_loop_example_g00660_impl_errForm), ("loop.example/g00660/impl.errNone", laid_loop_example_g00660_impl_errNone), ("loop.example/g00660/impl.errThere", laid_loop_example_g00660_impl_errThere), ("loop.example/g00660/impl.errFull", laid_loop_example_g00660_impl_errFull)], narrowed := true }
def FnUndoneUptoSaid : Prop := fnUndoneUptoRow.holds Tryz.pinned (OpenSpec.upto fnUndoneSpec)

/-- 'laws.FnClear', WHERE WHAT IT READS IS OF BULK AT MOST 1048576: true; the input reads as it did. -/
def fnClearUptoRow : OpenClaim := { program := "ythkagbnpcjidfaagreatdoor", sum := "2841a92a2942b6d03cec7718c860f86e4040d033c58f1f4103877bb54635facf", func := "loop.example/g00660/laws.FnClear", spec := "fnClear", inPlace := ["slices.overlaps[loop.example/g00660/impl.Op]", "internal/reflectlite.ValueOf", "(internal/reflectlite.Value).Type", "(internal/reflectlite.Value).IsNil", "internal/reflectlite.TypeOf", "(internal/reflectlite.Value).Elem", "(internal/reflectlite.Value).Set"], unfollowed := true, recurses := true, named := ["loop.example/g00660/impl.errForm", "loop.example/g00660/impl.errNone", "loop.example/g00660/impl.errThere", "loop.example/g00660/impl.errFull", "errors.errorType"], ifaces := true, plainKeys := false, apart := false, laid := [("errors.errorType", laid_errors_errorType), ("loop.example/g00660/impl.errForm", laid_loop_example_g00660_impl_errForm), ("loop.example/g00660/impl.errNone", laid_loop_example_g00660_impl_errNone), ("loop.example/g00660/impl.errThere", laid_loop_example_g00660_impl_errThere), ("loop.example/g00660/impl.errFull", laid_loop_example_g00660_impl_errFull)], narrowed := true }
def FnClearUptoSaid : Prop := fnClearUptoRow.holds Tryz.pinned (OpenSpec.upto fnClearSpec)

/-- 'laws.FnSetTwice', WHERE WHAT IT READS IS OF BULK AT MOST 1048576: true; the input reads as it did. -/
def fnSetTwiceUptoRow : OpenClaim := { program := "ythkagbnpcjidfaagreatdoor", sum := "2841a92a2942b6d03cec7718c860f86e4040d033c58f1f4103877bb54635facf", func := "loop.example/g00660/laws.FnSetTwice", spec := "fnSetTwice", inPlace := ["slices.overlaps[loop.example/g00660/impl.Op]", "internal/reflectlite.ValueOf", "(internal/reflectlite.Value).Type", "(internal/reflectlite.Value).IsNil", "internal/reflectlite.TypeOf", "(internal/reflectlite.Value).Elem", "(internal/reflectlite.Value).Set"], unfollowed := true, recurses := true, named := ["loop.example/g00660/impl.errForm", "loop.example/g00660/impl.errNone", "loop.example/g00660/impl.errThere", "loop.example/g00660/impl.errFull", "errors.errorType"], ifaces := true, plainKeys := false, apart := false, laid := [("errors.errorType", laid_errors_errorType), ("loop.example/g00660/impl.errForm", laid_loop_example_g00660_impl_errForm), ("loop.example/g00660/impl.errNone", laid_loop_example_g00660_impl_errNone), ("loop.example/g00660/impl.errThere", laid_loop_example_g00660_impl_errThere), ("loop.example/g00660/impl.errFull", laid_loop_example_g00660_impl_errFull)], narrowed := true }
def FnSetTwiceUptoSaid : Prop := fnSetTwiceUptoRow.holds Tryz.pinned (OpenSpec.upto fnSetTwiceSpec)

/-- 'laws.FnUndoOwn', WHERE WHAT IT READS IS OF BULK AT MOST 1048576: true; the input reads as it did. -/
def fnUndoOwnUptoRow : OpenClaim := { program := "ythkagbnpcjidfaagreatdoor", sum := "2841a92a2942b6d03cec7718c860f86e4040d033c58f1f4103877bb54635facf", func := "loop.example/g00660/laws.FnUndoOwn", spec := "fnUndoOwn", inPlace := ["slices.overlaps[loop.example/g00660/impl.Op]", "internal/reflectlite.ValueOf", "(internal/reflectlite.Value).Type", "(internal/reflectlite.Value).IsNil", "internal/reflectlite.TypeOf", "(internal/reflectlite.Value).Elem", "(internal/reflectlite.Value).Set"], unfollowed := true, recurses := true, named := ["loop.example/g00660/impl.errForm", "loop.example/g00660/impl.errNone", "loop.example/g00660/impl.errThere", "loop.example/g00660/impl.errFull", "errors.errorType"], ifaces := true, plainKeys := false, apart := false, laid := [("errors.errorType", laid_errors_errorType), ("loop.example/g00660/impl.errForm", laid_loop_example_g00660_impl_errForm), ("loop.example/g00660/impl.errNone", laid_loop_example_g00660_impl_errNone), ("loop.example/g00660/impl.errThere", laid_loop_example_g00660_impl_errThere), ("loop.example/g00660/impl.errFull", laid_loop_example_g00660_impl_errFull)], narrowed := true }
def FnUndoOwnUptoSaid : Prop := fnUndoOwnUptoRow.holds Tryz.pinned (OpenSpec.upto fnUndoOwnSpec)

/-- 'laws.FnNewest', WHERE WHAT IT READS IS OF BULK AT MOST 1048576: true; the input reads as it did. -/
def fnNewestUptoRow : OpenClaim := { program := "ythkagbnpcjidfaagreatdoor", sum := "2841a92a2942b6d03cec7718c860f86e4040d033c58f1f4103877bb54635facf", func := "loop.example/g00660/laws.FnNewest", spec := "fnNewest", inPlace := ["slices.overlaps[loop.example/g00660/impl.Op]", "internal/reflectlite.ValueOf", "(internal/reflectlite.Value).Type", "(internal/reflectlite.Value).IsNil", "internal/reflectlite.TypeOf", "(internal/reflectlite.Value).Elem", "(internal/reflectlite.Value).Set"], unfollowed := true, recurses := true, named := ["loop.example/g00660/impl.errForm", "loop.example/g00660/impl.errNone", "loop.example/g00660/impl.errThere", "loop.example/g00660/impl.errFull", "errors.errorType"], ifaces := true, plainKeys := false, apart := false, laid := [("errors.errorType", laid_errors_errorType), ("loop.example/g00660/impl.errForm", laid_loop_example_g00660_impl_errForm), ("loop.example/g00660/impl.errNone", laid_loop_example_g00660_impl_errNone), ("loop.example/g00660/impl.errThere", laid_loop_example_g00660_impl_errThere), ("loop.example/g00660/impl.errFull", laid_loop_example_g00660_impl_errFull)], narrowed := true }
def FnNewestUptoSaid : Prop := fnNewestUptoRow.holds Tryz.pinned (OpenSpec.upto fnNewestSpec)

/-- 'laws.FnAllUndone', WHERE WHAT IT READS IS OF BULK AT MOST 1048576: true; the input reads as it did. -/
def fnAllUndoneUptoRow : OpenClaim := { program := "ythkagbnpcjidfaagreatdoor", sum := "2841a92a2942b6d03cec7718c860f86e4040d033c58f1f4103877bb54635facf", func := "loop.example/g00660/laws.FnAllUndone", spec := "fnAllUndone", inPlace := ["slices.overlaps[loop.example/g00660/impl.Op]", "internal/reflectlite.ValueOf", "(internal/reflectlite.Value).Type", "(internal/reflectlite.Value).IsNil", "internal/reflectlite.TypeOf", "(internal/reflectlite.Value).Elem", "(internal/reflectlite.Value).Set"], unfollowed := true, recurses := true, named := ["loop.example/g00660/impl.errForm", "loop.example/g00660/impl.errNone", "loop.example/g00660/impl.errThere", "loop.example/g00660/impl.errFull", "errors.errorType"], ifaces := true, plainKeys := false, apart := false, laid := [("errors.errorType", laid_errors_errorType), ("loop.example/g00660/impl.errForm", laid_loop_example_g00660_impl_errForm), ("loop.example/g00660/impl.errNone", laid_loop_example_g00660_impl_errNone), ("loop.example/g00660/impl.errThere", laid_loop_example_g00660_impl_errThere), ("loop.example/g00660/impl.errFull", laid_loop_example_g00660_impl_errFull)], narrowed := true }
def FnAllUndoneUptoSaid : Prop := fnAllUndoneUptoRow.holds Tryz.pinned (OpenSpec.upto fnAllUndoneSpec)

/-- 'laws.FnSaveBack', WHERE WHAT IT READS IS OF BULK AT MOST 1048576: true; the input reads as it did. -/
def fnSaveBackUptoRow : OpenClaim := { program := "ythkagbnpcjidfaagreatdoor", sum := "2841a92a2942b6d03cec7718c860f86e4040d033c58f1f4103877bb54635facf", func := "loop.example/g00660/laws.FnSaveBack", spec := "fnSaveBack", inPlace := ["slices.overlaps[loop.example/g00660/impl.Op]", "internal/reflectlite.ValueOf", "(internal/reflectlite.Value).Type", "(internal/reflectlite.Value).IsNil", "internal/reflectlite.TypeOf", "(internal/reflectlite.Value).Elem", "(internal/reflectlite.Value).Set"], unfollowed := true, recurses := true, named := ["loop.example/g00660/impl.errForm", "loop.example/g00660/impl.errNone", "loop.example/g00660/impl.errThere", "loop.example/g00660/impl.errFull", "errors.errorType"], ifaces := true, plainKeys := false, apart := false, laid := [("errors.errorType", laid_errors_errorType), ("loop.example/g00660/impl.errForm", laid_loop_example_g00660_impl_errForm), ("loop.example/g00660/impl.errNone", laid_loop_example_g00660_impl_errNone), ("loop.example/g00660/impl.errThere", laid_loop_example_g00660_impl_errThere), ("loop.example/g00660/impl.errFull", laid_loop_example_g00660_impl_errFull)], narrowed := true }
def FnSaveBackUptoSaid : Prop := fnSaveBackUptoRow.holds Tryz.pinned (OpenSpec.upto fnSaveBackSpec)

/-- 'laws.FnRemoveAdd', WHERE WHAT IT READS IS OF BULK AT MOST 1048576: true; the input reads as it did. -/
def fnRemoveAddUptoRow : OpenClaim := { program := "ythkagbnpcjidfaagreatdoor", sum := "2841a92a2942b6d03cec7718c860f86e4040d033c58f1f4103877bb54635facf", func := "loop.example/g00660/laws.FnRemoveAdd", spec := "fnRemoveAdd", inPlace := ["slices.overlaps[loop.example/g00660/impl.Op]", "internal/reflectlite.ValueOf", "(internal/reflectlite.Value).Type", "(internal/reflectlite.Value).IsNil", "internal/reflectlite.TypeOf", "(internal/reflectlite.Value).Elem", "(internal/reflectlite.Value).Set"], unfollowed := true, recurses := true, named := ["loop.example/g00660/impl.errForm", "loop.example/g00660/impl.errNone", "loop.example/g00660/impl.errThere", "loop.example/g00660/impl.errFull", "errors.errorType"], ifaces := true, plainKeys := false, apart := false, laid := [("errors.errorType", laid_errors_errorType), ("loop.example/g00660/impl.errForm", laid_loop_example_g00660_impl_errForm), ("loop.example/g00660/impl.errNone", laid_loop_example_g00660_impl_errNone), ("loop.example/g00660/impl.errThere", laid_loop_example_g00660_impl_errThere), ("loop.example/g00660/impl.errFull", laid_loop_example_g00660_impl_errFull)], narrowed := true }
def FnRemoveAddUptoSaid : Prop := fnRemoveAddUptoRow.holds Tryz.pinned (OpenSpec.upto fnRemoveAddSpec)

/-- 'laws.FnToggledTwice', WHERE WHAT IT READS IS OF BULK AT MOST 1048576: true; the input reads as it did. -/
def fnToggledTwiceUptoRow : OpenClaim := { program := "ythkagbnpcjidfaagreatdoor", sum := "2841a92a2942b6d03cec7718c860f86e4040d033c58f1f4103877bb54635facf", func := "loop.example/g00660/laws.FnToggledTwice", spec := "fnToggledTwice", inPlace := ["slices.overlaps[loop.example/g00660/impl.Op]", "internal/reflectlite.ValueOf", "(internal/reflectlite.Value).Type", "(internal/reflectlite.Value).IsNil", "internal/reflectlite.TypeOf", "(internal/reflectlite.Value).Elem", "(internal/reflectlite.Value).Set"], unfollowed := true, recurses := true, named := ["loop.example/g00660/impl.errForm", "loop.example/g00660/impl.errNone", "loop.example/g00660/impl.errThere", "loop.example/g00660/impl.errFull", "errors.errorType"], ifaces := true, plainKeys := false, apart := false, laid := [("errors.errorType", laid_errors_errorType), ("loop.example/g00660/impl.errForm", laid_loop_example_g00660_impl_errForm), ("loop.example/g00660/impl.errNone", laid_loop_example_g00660_impl_errNone), ("loop.example/g00660/impl.errThere", laid_loop_example_g00660_impl_errThere), ("loop.example/g00660/impl.errFull", laid_loop_example_g00660_impl_errFull)], narrowed := true }
def FnToggledTwiceUptoSaid : Prop := fnToggledTwiceUptoRow.holds Tryz.pinned (OpenSpec.upto fnToggledTwiceSpec)

end Rows
end Go.Proofs.YthkagbnpcjidfaaGreatDoor
