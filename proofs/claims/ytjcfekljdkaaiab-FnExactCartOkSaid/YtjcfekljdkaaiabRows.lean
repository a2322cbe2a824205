/-
  No cell of these rows narrows 'for every input' (looked for: loops, veiled, ifaces, maps, wideKeys, modest, calm, conditions, laid).
  DERIVED. THE GIVEN ROWS OF THIS SEAT. 10 by the template 'for every input the law returns true; each argument reads behind the call as it read before'; 0 by the template 'total and deterministic' (their statements: YtjcfekljdkaaiabTotals.lean).
  GIVEN WITH THE SEED: the statements are not yours to turn. If you find one false, say at which input.
  Laid BY PROGRAM, IN A SANDBOX (cutbox-rows.mjs): the forced cells as the released guide's own fill.sh prints them over the translation f1cf811ad8250f2f… (all of the seat's roots in one cut). By AI agents, Wed Nov 11 2026. No macro, syntax, notation, axiom, sorry.
-/
import Derived.Test.YtjcfekljdkaaiabChecked
import GoSem.Claim
import GoSem.ClaimJoined
import GoSem.ClaimMapViews
import Derived.JoinedTies
import Derived.KernelRfl
namespace Go.Proofs.Ytjcfekljdkaaiab
/- THE CELL 'sum', in the pinned program and in every row, IS THE sha256 OF THE DUMP (.gsa) THAT YtjcfekljdkaaiabProg.lean LOADS. Nothing in Lean hashes anything: it is a label: what it is worth is what the hold of that sum in a sandbox is worth. -/
noncomputable def Try.pinned : Pinned := { name := "ytjcfekljdkaaiab", sum := "f1cf811ad8250f2fa77c0499a82b7d40e8f2258d0c4445949567c62689564415", checked := Try.checked }
namespace Rows
def none {H : Type} : Left H := { results := [], args := [] }

/-- 'laws.FnBefore': WHATEVER THE INPUT: true; the input reads as it did. -/
def fnBeforeSpec : ChangeSpec := { name := "fnBefore", fn := fun _ => fun
  | [d] => { results := [.lit (.bool true)], args := [d] }
  | _ => none }
def fnBeforeRow : OpenClaim := { program := "ytjcfekljdkaaiab", sum := "f1cf811ad8250f2fa77c0499a82b7d40e8f2258d0c4445949567c62689564415", func := "loop.example/g00660/laws.FnBefore", spec := "fnBefore", unfollowed := true, recurses := true, plainKeys := false, apart := false }
def FnBeforeSaid : Prop := fnBeforeRow.holds Try.pinned (OpenSpec.ofChange fnBeforeSpec)

/-- ITS FALSE NEIGHBOUR: 'it returns false'. Refute it at one input. -/
def fnBeforeWrong : ChangeSpec := { name := "fnBefore", fn := fun _ => fun
  | [d] => { results := [.lit (.bool false)], args := [d] }
  | _ => none }
def FnBeforeWrongFalsely : Prop := fnBeforeRow.holds Try.pinned (OpenSpec.ofChange fnBeforeWrong)

/-- 'laws.FnMerged': WHATEVER THE INPUT: true; the input reads as it did. -/
def fnMergedSpec : ChangeSpec := { name := "fnMerged", fn := fun _ => fun
  | [d] => { results := [.lit (.bool true)], args := [d] }
  | _ => none }
def fnMergedRow : OpenClaim := { program := "ytjcfekljdkaaiab", sum := "f1cf811ad8250f2fa77c0499a82b7d40e8f2258d0c4445949567c62689564415", func := "loop.example/g00660/laws.FnMerged", spec := "fnMerged", unfollowed := true, recurses := true, plainKeys := false, apart := false }
def FnMergedSaid : Prop := fnMergedRow.holds Try.pinned (OpenSpec.ofChange fnMergedSpec)

/-- ITS FALSE NEIGHBOUR: 'it returns false'. Refute it at one input. -/
def fnMergedWrong : ChangeSpec := { name := "fnMerged", fn := fun _ => fun
  | [d] => { results := [.lit (.bool false)], args := [d] }
  | _ => none }
def FnMergedWrongFalsely : Prop := fnMergedRow.holds Try.pinned (OpenSpec.ofChange fnMergedWrong)

/-- 'laws.FnMergedTwice': WHATEVER THE INPUT: true; the input reads as it did. -/
def fnMergedTwiceSpec : ChangeSpec := { name := "fnMergedTwice", fn := fun _ => fun
  | [d] => { results := [.lit (.bool true)], args := [d] }
  | _ => none }
def fnMergedTwiceRow : OpenClaim := { program := "ytjcfekljdkaaiab", sum := "f1cf811ad8250f2fa77c0499a82b7d40e8f2258d0c4445949567c62689564415", func := "loop.example/g00660/laws.FnMergedTwice", spec := "fnMergedTwice", unfollowed := true, recurses := true, plainKeys := false, apart := false }
def FnMergedTwiceSaid : Prop := fnMergedTwiceRow.holds Try.pinned (OpenSpec.ofChange fnMergedTwiceSpec)

/-- ITS FALSE NEIGHBOUR: 'it returns false'. Refute it at one input. -/
def fnMergedTwiceWrong : ChangeSpec := { name := "fnMergedTwice", fn := fun _ => fun
  | [d] => { results := [.lit (.bool false)], args := [d] }
  | _ => none }
def FnMergedTwiceWrongFalsely : Prop := fnMergedTwiceRow.holds Try.pinned (OpenSpec.ofChange fnMergedTwiceWrong)

/-- 'laws.FnWithin': WHATEVER THE INPUT: true; the input reads as it did. -/
def fnWithinSpec : ChangeSpec := { name := "fnWithin", fn := fun _ => fun
  | [d] => { results := [.lit (.bool true)], args := [d] }
  | _ => none }
def fnWithinRow : OpenClaim := { program := "ytjcfekljdkaaiab", sum := "f1cf811ad8250f2fa77c0499a82b7d40e8f2258d0c4445949567c62689564415", func := "loop.example/g00660/laws.FnWithin", spec := "fnWithin", unfollowed := true, recurses := true, plainKeys := false, apart := false }
def FnWithinSaid : Prop := fnWithinRow.holds Try.pinned (OpenSpec.ofChange fnWithinSpec)

/-- ITS FALSE NEIGHBOUR: 'it returns false'. Refute it at one input. -/
def fnWithinWrong : ChangeSpec := { name := "fnWithin", fn := fun _ => fun
  | [d] => { results := [.lit (.bool false)], args := [d] }
  | _ => none }
def FnWithinWrongFalsely : Prop := fnWithinRow.holds Try.pinned (OpenSpec.ofChange fnWithinWrong)

/-- 'laws.FnMergedUndos': WHATEVER THE INPUT: true; the input reads as it did. -/
def fnMergedUndosSpec : ChangeSpec := { name := "fnMergedUndos", fn := fun _ => fun
  | [d] => { results := [.lit (.bool true)], args := [d] }
  | _ => none }
def fnMergedUndosRow : OpenClaim := { program := "ytjcfekljdkaaiab", sum := "f1cf811ad8250f2fa77c0499a82b7d40e8f2258d0c4445949567c62689564415", func := "loop.example/g00660/laws.FnMergedUndos", spec := "fnMergedUndos", unfollowed := true, recurses := true, plainKeys := false, apart := false }
def FnMergedUndosSaid : Prop := fnMergedUndosRow.holds Try.pinned (OpenSpec.ofChange fnMergedUndosSpec)

/-- ITS FALSE NEIGHBOUR: 'it returns false'. Refute it at one input. -/
def fnMergedUndosWrong : ChangeSpec := { name := "fnMergedUndos", fn := fun _ => fun
  | [d] => { results := [.lit (.bool false)], args := [d] }
  | _ => none }
def FnMergedUndosWrongFalsely : Prop := fnMergedUndosRow.holds Try.pinned (OpenSpec.ofChange fnMergedUndosWrong)

/-- 'laws.FnExactCartNew': WHATEVER THE INPUT: true; the input reads as it did. -/
def fnExactCartNewSpec : ChangeSpec := { name := "fnExactCartNew", fn := fun _ => fun
  | [] => { results := [.lit (.bool true)], args := [] }
  | _ => none }
def fnExactCartNewRow : OpenClaim := { program := "ytjcfekljdkaaiab", sum := "f1cf811ad8250f2fa77c0499a82b7d40e8f2258d0c4445949567c62689564415", func := "loop.example/g00660/laws.FnExactCartNew", spec := "fnExactCartNew", plainKeys := false, apart := false }
def FnExactCartNewSaid : Prop := fnExactCartNewRow.holds Try.pinned (OpenSpec.ofChange fnExactCartNewSpec)

/-- ITS FALSE NEIGHBOUR: 'it returns false'. Refute it at one input. -/
def fnExactCartNewWrong : ChangeSpec := { name := "fnExactCartNew", fn := fun _ => fun
  | [] => { results := [.lit (.bool false)], args := [] }
  | _ => none }
def FnExactCartNewWrongFalsely : Prop := fnExactCartNewRow.holds Try.pinned (OpenSpec.ofChange fnExactCartNewWrong)

/-- 'laws.FnExactCartOk': WHATEVER THE INPUT: true; the input reads as it did. -/
def fnExactCartOkSpec : ChangeSpec := { name := "fnExactCartOk", fn := fun _ => fun
  | [d] => { results := [.lit (.bool true)], args := [d] }
  | _ => none }
def fnExactCartOkRow : OpenClaim := { program := "ytjcfekljdkaaiab", sum := "f1cf811ad8250f2fa77c0499a82b7d40e8f2258d0c4445949567c62689564415", func := "loop.example/g00660/laws.FnExactCartOk", spec := "fnExactCartOk", unfollowed := true, recurses := true, plainKeys := false, apart := false }
def FnExactCartOkSaid : Prop := fnExactCartOkRow.holds Try.pinned (OpenSpec.ofChange fnExactCartOkSpec)

/-- ITS FALSE NEIGHBOUR: 'it returns false'. Refute it at one input. -/
def fnExactCartOkWrong : ChangeSpec := { name := "fnExactCartOk", fn := fun _ => fun
  | [d] => { results := [.lit (.bool false)], args := [d] }
  | _ => none }
def FnExactCartOkWrongFalsely : Prop := fnExactCartOkRow.holds Try.pinned (OpenSpec.ofChange fnExactCartOkWrong)

/-- 'laws.FnExactMerged': WHATEVER THE INPUT: true; the input reads as it did. -/
def fnExactMergedSpec : ChangeSpec := { name := "fnExactMerged", fn := fun _ => fun
  | [d1, d2] => { results := [.lit (.bool true)], args := [d1, d2] }
  | _ => none }
def fnExactMergedRow : OpenClaim := { program := "ytjcfekljdkaaiab", sum := "f1cf811ad8250f2fa77c0499a82b7d40e8f2258d0c4445949567c62689564415", func := "loop.example/g00660/laws.FnExactMerged", spec := "fnExactMerged", unfollowed := true, recurses := true, plainKeys := false, apart := false }
def FnExactMergedSaid : Prop := fnExactMergedRow.holds Try.pinned (OpenSpec.ofChange fnExactMergedSpec)

/-- ITS FALSE NEIGHBOUR: 'it returns false'. Refute it at one input. -/
def fnExactMergedWrong : ChangeSpec := { name := "fnExactMerged", fn := fun _ => fun
  | [d1, d2] => { results := [.lit (.bool false)], args := [d1, d2] }
  | _ => none }
def FnExactMergedWrongFalsely : Prop := fnExactMergedRow.holds Try.pinned (OpenSpec.ofChange fnExactMergedWrong)

/-- 'laws.FnExactWithin': WHATEVER THE INPUT: true; the input reads as it did. -/
def fnExactWithinSpec : ChangeSpec := { name := "fnExactWithin", fn := fun _ => fun
  | [d1, d2] => { results := [.lit (.bool true)], args := [d1, d2] }
  | _ => none }
def fnExactWithinRow : OpenClaim := { program := "ytjcfekljdkaaiab", sum := "f1cf811ad8250f2fa77c0499a82b7d40e8f2258d0c4445949567c62689564415", func := "loop.example/g00660/laws.FnExactWithin", spec := "fnExactWithin", unfollowed := true, recurses := true, plainKeys := false, apart := false }
def FnExactWithinSaid : Prop := fnExactWithinRow.holds Try.pinned (OpenSpec.ofChange fnExactWithinSpec)

/-- ITS FALSE NEIGHBOUR: 'it returns false'. Refute it at one input. -/
def fnExactWithinWrong : ChangeSpec := { name := "fnExactWithin", fn := fun _ => fun
  | [d1, d2] => { results := [.lit (.bool false)], args := [d1, d2] }
  | _ => none }
def FnExactWithinWrongFalsely : Prop := fnExactWithinRow.holds Try.pinned (OpenSpec.ofChange fnExactWithinWrong)

/-- 'laws.FnExactCartBytes': WHATEVER THE INPUT: true; the input reads as it did. -/
def fnExactCartBytesSpec : ChangeSpec := { name := "fnExactCartBytes", fn := fun _ => fun
  | [d] => { results := [.lit (.bool true)], args := [d] }
  | _ => none }
def fnExactCartBytesRow : OpenClaim := { program := "ytjcfekljdkaaiab", sum := "f1cf811ad8250f2fa77c0499a82b7d40e8f2258d0c4445949567c62689564415", func := "loop.example/g00660/laws.FnExactCartBytes", spec := "fnExactCartBytes", inPlace := ["internal/abi.NoEscape"], unfollowed := true, recurses := true, plainKeys := false, apart := false }
def FnExactCartBytesSaid : Prop := fnExactCartBytesRow.holds Try.pinned (OpenSpec.ofChange fnExactCartBytesSpec)

/-- ITS FALSE NEIGHBOUR: 'it returns false'. Refute it at one input. -/
def fnExactCartBytesWrong : ChangeSpec := { name := "fnExactCartBytes", fn := fun _ => fun
  | [d] => { results := [.lit (.bool false)], args := [d] }
  | _ => none }
def FnExactCartBytesWrongFalsely : Prop := fnExactCartBytesRow.holds Try.pinned (OpenSpec.ofChange fnExactCartBytesWrong)

/- THE SECOND FORM. 'bulk': how many values and letters a reading holds, each counted each time it is reached (what is shared counts as often as it is met; a slice's spare places count too). A statement '..UptoSaid' is the law's where the arguments, and the package variables that the reading takes, are together of bulk at most 1048576: NARROWER than '..Said'. Prove '..Said' where nothing that the law and all that it calls make is longer than what came in: it says more and counts as full. Else prove '..UptoSaid'. A law counts once. -/
mutual
def uptoBulk {H : Type} : DataW H → Nat
  | .lit (.string bytes) => bytes.length + 1
  | .lit _ => 1
  | .nil => 1
  | .ptr d => uptoBulk d + 1
  | .slice elems spare => uptoBulkAll elems + uptoBulkAll spare + 1
  | .agg parts => uptoBulkAll parts + 1
  | .iface _ d => uptoBulk d + 1
  | .map entries => uptoBulkEntries entries + 1
  | .held _ => 1
def uptoBulkAll {H : Type} : List (DataW H) → Nat
  | [] => 0
  | d :: r => uptoBulk d + uptoBulkAll r
def uptoBulkEntries {H : Type} : List (Lit × DataW H) → Nat
  | [] => 0
  | x :: r => uptoBulkEntry x + uptoBulkEntries r
def uptoBulkEntry {H : Type} : Lit × DataW H → Nat
  | (.string bytes, d) => bytes.length + uptoBulk d + 1
  | (_, d) => uptoBulk d + 1
 end
def uptoSmall : (H : Type) → List (DataW H) → Bool := fun _ ds => decide (uptoBulkAll ds ≤ 1048576)
def OpenSpec.upto (s : _root_.Go.ChangeSpec) : _root_.Go.OpenSpec := { _root_.Go.OpenSpec.ofChange s with cond := some uptoSmall }

/-- 'laws.FnBefore', WHERE WHAT IT READS IS OF BULK AT MOST 1048576: true; the input reads as it did. -/
def fnBeforeUptoRow : OpenClaim := { program := "ytjcfekljdkaaiab", sum := "f1cf811ad8250f2fa77c0499a82b7d40e8f2258d0c4445949567c62689564415", func := "loop.example/g00660/laws.FnBefore", spec := "fnBefore", unfollowed := true, recurses := true, plainKeys := false, apart := false, narrowed := true }
def FnBeforeUptoSaid : Prop := fnBeforeUptoRow.holds Try.pinned (OpenSpec.upto fnBeforeSpec)

/-- 'laws.FnMerged', WHERE WHAT IT READS IS OF BULK AT MOST 1048576: true; the input reads as it did. -/
def fnMergedUptoRow : OpenClaim := { program := "ytjcfekljdkaaiab", sum := "f1cf811ad8250f2fa77c0499a82b7d40e8f2258d0c4445949567c62689564415", func := "loop.example/g00660/laws.FnMerged", spec := "fnMerged", unfollowed := true, recurses := true, plainKeys := false, apart := false, narrowed := true }
def FnMergedUptoSaid : Prop := fnMergedUptoRow.holds Try.pinned (OpenSpec.upto fnMergedSpec)

/-- 'laws.FnMergedTwice', WHERE WHAT IT READS IS OF BULK AT MOST 1048576: true; the input reads as it did. -/
def fnMergedTwiceUptoRow : OpenClaim := { program := "ytjcfekljdkaaiab", sum := "f1cf811ad8250f2fa77c0499a82b7d40e8f2258d0c4445949567c62689564415", func := "loop.example/g00660/laws.FnMergedTwice", spec := "fnMergedTwice", unfollowed := true, recurses := true, plainKeys := false, apart := false, narrowed := true }
def FnMergedTwiceUptoSaid : Prop := fnMergedTwiceUptoRow.holds Try.pinned (OpenSpec.upto fnMergedTwiceSpec)

/-- 'laws.FnWithin', WHERE WHAT IT READS IS OF BULK AT MOST 1048576: true; the input reads as it did. -/
def fnWithinUptoRow : OpenClaim := { program := "ytjcfekljdkaaiab", sum := "f1cf811ad8250f2fa77c0499a82b7d40e8f2258d0c4445949567c62689564415", func := "loop.example/g00660/laws.FnWithin", spec := "fnWithin", unfollowed := true, recurses := true, plainKeys := false, apart := false, narrowed := true }
def FnWithinUptoSaid : Prop := fnWithinUptoRow.holds Try.pinned (OpenSpec.upto fnWithinSpec)

/-- 'laws.FnMergedUndos', WHERE WHAT IT READS IS OF BULK AT MOST 1048576: true; the input reads as it did. -/
def fnMergedUndosUptoRow : OpenClaim := { program := "ytjcfekljdkaaiab", sum := "f1cf811ad8250f2fa77c0499a82b7d40e8f2258d0c4445949567c62689564415", func := "loop.example/g00660/laws.FnMergedUndos", spec := "fnMergedUndos", unfollowed := true, recurses := true, plainKeys := false, apart := false, narrowed := true }
def FnMergedUndosUptoSaid : Prop := fnMergedUndosUptoRow.holds Try.pinned (OpenSpec.upto fnMergedUndosSpec)

/-- 'laws.FnExactCartNew', WHERE WHAT IT READS IS OF BULK AT MOST 1048576: true; the input reads as it did. -/
def fnExactCartNewUptoRow : OpenClaim := { program := "ytjcfekljdkaaiab", sum := "f1cf811ad8250f2fa77c0499a82b7d40e8f2258d0c4445949567c62689564415", func := "loop.example/g00660/laws.FnExactCartNew", spec := "fnExactCartNew", plainKeys := false, apart := false, narrowed := true }
def FnExactCartNewUptoSaid : Prop := fnExactCartNewUptoRow.holds Try.pinned (OpenSpec.upto fnExactCartNewSpec)

/-- 'laws.FnExactCartOk', WHERE WHAT IT READS IS OF BULK AT MOST 1048576: true; the input reads as it did. -/
def fnExactCartOkUptoRow : OpenClaim := { program := "ytjcfekljdkaaiab", sum := "f1cf811ad8250f2fa77c0499a82b7d40e8f2258d0c4445949567c62689564415", func := "loop.example/g00660/laws.FnExactCartOk", spec := "fnExactCartOk", unfollowed := true, recurses := true, plainKeys := false, apart := false, narrowed := true }
def FnExactCartOkUptoSaid : Prop := fnExactCartOkUptoRow.holds Try.pinned (OpenSpec.upto fnExactCartOkSpec)

/-- 'laws.FnExactMerged', WHERE WHAT IT READS IS OF BULK AT MOST 1048576: true; the input reads as it did. -/
def fnExactMergedUptoRow : OpenClaim := { program := "ytjcfekljdkaaiab", sum := "f1cf811ad8250f2fa77c0499a82b7d40e8f2258d0c4445949567c62689564415", func := "loop.example/g00660/laws.FnExactMerged", spec := "fnExactMerged", unfollowed := true, recurses := true, plainKeys := false, apart := false, narrowed := true }
def FnExactMergedUptoSaid : Prop := fnExactMergedUptoRow.holds Try.pinned (OpenSpec.upto fnExactMergedSpec)

/-- 'laws.FnExactWithin', WHERE WHAT IT READS IS OF BULK AT MOST 1048576: true; the input reads as it did. -/
def fnExactWithinUptoRow : OpenClaim := { program := "ytjcfekljdkaaiab", sum := "f1cf811ad8250f2fa77c0499a82b7d40e8f2258d0c4445949567c62689564415", func := "loop.example/g00660/laws.FnExactWithin", spec := "fnExactWithin", unfollowed := true, recurses := true, plainKeys := false, apart := false, narrowed := true }
def FnExactWithinUptoSaid : Prop := fnExactWithinUptoRow.holds Try.pinned (OpenSpec.upto fnExactWithinSpec)

/-- 'laws.FnExactCartBytes', WHERE WHAT IT READS IS OF BULK AT MOST 1048576: true; the input reads as it did. -/
def fnExactCartBytesUptoRow : OpenClaim := { program := "ytjcfekljdkaaiab", sum := "f1cf811ad8250f2fa77c0499a82b7d40e8f2258d0c4445949567c62689564415", func := "loop.example/g00660/laws.FnExactCartBytes", spec := "fnExactCartBytes", inPlace := ["internal/abi.NoEscape"], unfollowed := true, recurses := true, plainKeys := false, apart := false, narrowed := true }
def FnExactCartBytesUptoSaid : Prop := fnExactCartBytesUptoRow.holds Try.pinned (OpenSpec.upto fnExactCartBytesSpec)

end Rows
end Go.Proofs.Ytjcfekljdkaaiab
