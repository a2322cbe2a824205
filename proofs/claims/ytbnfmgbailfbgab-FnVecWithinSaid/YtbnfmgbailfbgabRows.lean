/-
  No cell of these rows narrows 'for every input' (looked for: loops, veiled, ifaces, maps, wideKeys, modest, calm, conditions, laid).
  DERIVED. THE GIVEN ROWS OF THIS SEAT. 7 by the template 'for every input the law returns true; each argument reads behind the call as it read before'; 0 by the template 'total and deterministic' (their statements: YtbnfmgbailfbgabTotals.lean).
  GIVEN WITH THE SEED: the statements are not yours to turn. If you find one false, say at which input.
  Laid BY PROGRAM, IN A SANDBOX (cutbox-rows.mjs): the forced cells as the released guide's own fill.sh prints them over the translation a02411b459b66df6… (all of the seat's roots in one cut). By AI agents, Wed Nov 11 2026. No macro, syntax, notation, axiom, sorry.
-/
import Derived.Test.YtbnfmgbailfbgabChecked
import GoSem.Claim
import GoSem.ClaimJoined
import GoSem.ClaimMapViews
import Derived.JoinedTies
import Derived.KernelRfl
namespace Go.Proofs.Ytbnfmgbailfbgab
/- THE CELL 'sum', in the pinned program and in every row, IS THE sha256 OF THE DUMP (.gsa) THAT YtbnfmgbailfbgabProg.lean LOADS. Nothing in Lean hashes anything: it is a label: what it is worth is what the hold of that sum in a sandbox is worth. -/
noncomputable def Try.pinned : Pinned := { name := "ytbnfmgbailfbgab", sum := "a02411b459b66df6b4e8a82990e4d8505c6e00b1ad90e36f30c4b955106c4e83", checked := Try.checked }
namespace Rows
def none {H : Type} : Left H := { results := [], args := [] }

/-- 'laws.FnVecs': WHATEVER THE INPUT: true; the input reads as it did. -/
def fnVecsSpec : ChangeSpec := { name := "fnVecs", fn := fun _ => fun
  | [d] => { results := [.lit (.bool true)], args := [d] }
  | _ => none }
def fnVecsRow : OpenClaim := { program := "ytbnfmgbailfbgab", sum := "a02411b459b66df6b4e8a82990e4d8505c6e00b1ad90e36f30c4b955106c4e83", func := "loop.example/g00660/laws.FnVecs", spec := "fnVecs", apart := false }
def FnVecsSaid : Prop := fnVecsRow.holds Try.pinned (OpenSpec.ofChange fnVecsSpec)

/-- ITS FALSE NEIGHBOUR: 'it returns false'. Refute it at one input. -/
def fnVecsWrong : ChangeSpec := { name := "fnVecs", fn := fun _ => fun
  | [d] => { results := [.lit (.bool false)], args := [d] }
  | _ => none }
def FnVecsWrongFalsely : Prop := fnVecsRow.holds Try.pinned (OpenSpec.ofChange fnVecsWrong)

/-- 'laws.FnVecWithin': WHATEVER THE INPUT: true; the input reads as it did. -/
def fnVecWithinSpec : ChangeSpec := { name := "fnVecWithin", fn := fun _ => fun
  | [d] => { results := [.lit (.bool true)], args := [d] }
  | _ => none }
def fnVecWithinRow : OpenClaim := { program := "ytbnfmgbailfbgab", sum := "a02411b459b66df6b4e8a82990e4d8505c6e00b1ad90e36f30c4b955106c4e83", func := "loop.example/g00660/laws.FnVecWithin", spec := "fnVecWithin", apart := false }
def FnVecWithinSaid : Prop := fnVecWithinRow.holds Try.pinned (OpenSpec.ofChange fnVecWithinSpec)

/-- ITS FALSE NEIGHBOUR: 'it returns false'. Refute it at one input. -/
def fnVecWithinWrong : ChangeSpec := { name := "fnVecWithin", fn := fun _ => fun
  | [d] => { results := [.lit (.bool false)], args := [d] }
  | _ => none }
def FnVecWithinWrongFalsely : Prop := fnVecWithinRow.holds Try.pinned (OpenSpec.ofChange fnVecWithinWrong)

/-- 'laws.FnVecThree': WHATEVER THE INPUT: true; the input reads as it did. -/
def fnVecThreeSpec : ChangeSpec := { name := "fnVecThree", fn := fun _ => fun
  | [d] => { results := [.lit (.bool true)], args := [d] }
  | _ => none }
def fnVecThreeRow : OpenClaim := { program := "ytbnfmgbailfbgab", sum := "a02411b459b66df6b4e8a82990e4d8505c6e00b1ad90e36f30c4b955106c4e83", func := "loop.example/g00660/laws.FnVecThree", spec := "fnVecThree", apart := false }
def FnVecThreeSaid : Prop := fnVecThreeRow.holds Try.pinned (OpenSpec.ofChange fnVecThreeSpec)

/-- ITS FALSE NEIGHBOUR: 'it returns false'. Refute it at one input. -/
def fnVecThreeWrong : ChangeSpec := { name := "fnVecThree", fn := fun _ => fun
  | [d] => { results := [.lit (.bool false)], args := [d] }
  | _ => none }
def FnVecThreeWrongFalsely : Prop := fnVecThreeRow.holds Try.pinned (OpenSpec.ofChange fnVecThreeWrong)

/-- 'laws.FnExactVecOk': WHATEVER THE INPUT: true; the input reads as it did. -/
def fnExactVecOkSpec : ChangeSpec := { name := "fnExactVecOk", fn := fun _ => fun
  | [d] => { results := [.lit (.bool true)], args := [d] }
  | _ => none }
def fnExactVecOkRow : OpenClaim := { program := "ytbnfmgbailfbgab", sum := "a02411b459b66df6b4e8a82990e4d8505c6e00b1ad90e36f30c4b955106c4e83", func := "loop.example/g00660/laws.FnExactVecOk", spec := "fnExactVecOk", apart := false }
def FnExactVecOkSaid : Prop := fnExactVecOkRow.holds Try.pinned (OpenSpec.ofChange fnExactVecOkSpec)

/-- ITS FALSE NEIGHBOUR: 'it returns false'. Refute it at one input. -/
def fnExactVecOkWrong : ChangeSpec := { name := "fnExactVecOk", fn := fun _ => fun
  | [d] => { results := [.lit (.bool false)], args := [d] }
  | _ => none }
def FnExactVecOkWrongFalsely : Prop := fnExactVecOkRow.holds Try.pinned (OpenSpec.ofChange fnExactVecOkWrong)

/-- 'laws.FnExactVecMax': WHATEVER THE INPUT: true; the input reads as it did. -/
def fnExactVecMaxSpec : ChangeSpec := { name := "fnExactVecMax", fn := fun _ => fun
  | [d1, d2] => { results := [.lit (.bool true)], args := [d1, d2] }
  | _ => none }
def fnExactVecMaxRow : OpenClaim := { program := "ytbnfmgbailfbgab", sum := "a02411b459b66df6b4e8a82990e4d8505c6e00b1ad90e36f30c4b955106c4e83", func := "loop.example/g00660/laws.FnExactVecMax", spec := "fnExactVecMax", apart := false }
def FnExactVecMaxSaid : Prop := fnExactVecMaxRow.holds Try.pinned (OpenSpec.ofChange fnExactVecMaxSpec)

/-- ITS FALSE NEIGHBOUR: 'it returns false'. Refute it at one input. -/
def fnExactVecMaxWrong : ChangeSpec := { name := "fnExactVecMax", fn := fun _ => fun
  | [d1, d2] => { results := [.lit (.bool false)], args := [d1, d2] }
  | _ => none }
def FnExactVecMaxWrongFalsely : Prop := fnExactVecMaxRow.holds Try.pinned (OpenSpec.ofChange fnExactVecMaxWrong)

/-- 'laws.FnExactVecMin': WHATEVER THE INPUT: true; the input reads as it did. -/
def fnExactVecMinSpec : ChangeSpec := { name := "fnExactVecMin", fn := fun _ => fun
  | [d1, d2] => { results := [.lit (.bool true)], args := [d1, d2] }
  | _ => none }
def fnExactVecMinRow : OpenClaim := { program := "ytbnfmgbailfbgab", sum := "a02411b459b66df6b4e8a82990e4d8505c6e00b1ad90e36f30c4b955106c4e83", func := "loop.example/g00660/laws.FnExactVecMin", spec := "fnExactVecMin", apart := false }
def FnExactVecMinSaid : Prop := fnExactVecMinRow.holds Try.pinned (OpenSpec.ofChange fnExactVecMinSpec)

/-- ITS FALSE NEIGHBOUR: 'it returns false'. Refute it at one input. -/
def fnExactVecMinWrong : ChangeSpec := { name := "fnExactVecMin", fn := fun _ => fun
  | [d1, d2] => { results := [.lit (.bool false)], args := [d1, d2] }
  | _ => none }
def FnExactVecMinWrongFalsely : Prop := fnExactVecMinRow.holds Try.pinned (OpenSpec.ofChange fnExactVecMinWrong)

/-- 'laws.FnExactVecWithin': WHATEVER THE INPUT: true; the input reads as it did. -/
def fnExactVecWithinSpec : ChangeSpec := { name := "fnExactVecWithin", fn := fun _ => fun
  | [d1, d2] => { results := [.lit (.bool true)], args := [d1, d2] }
  | _ => none }
def fnExactVecWithinRow : OpenClaim := { program := "ytbnfmgbailfbgab", sum := "a02411b459b66df6b4e8a82990e4d8505c6e00b1ad90e36f30c4b955106c4e83", func := "loop.example/g00660/laws.FnExactVecWithin", spec := "fnExactVecWithin", apart := false }
def FnExactVecWithinSaid : Prop := fnExactVecWithinRow.holds Try.pinned (OpenSpec.ofChange fnExactVecWithinSpec)

/-- ITS FALSE NEIGHBOUR: 'it returns false'. Refute it at one input. -/
def fnExactVecWithinWrong : ChangeSpec := { name := "fnExactVecWithin", fn := fun _ => fun
  | [d1, d2] => { results := [.lit (.bool false)], args := [d1, d2] }
  | _ => none }
def FnExactVecWithinWrongFalsely : Prop := fnExactVecWithinRow.holds Try.pinned (OpenSpec.ofChange fnExactVecWithinWrong)

/- THE SECOND FORM. 'bulk': how many values and letters a reading holds, each counted each time it is reached (what is shared counts as often as it is met; a slice's spare places count too). A statement '..UptoSaid' is the law's where the arguments, and the package variables that the reading takes, are together of bulk at most 1048576: NARROWER than '..Said'. Prove '..Said' where nothing that the law and all that it calls make is longer than what came in: it says more and counts as full. Else prove '..UptoSaid'. A law counts once. -/
mutual
def uptoBulk {H : Type} : DataW H → Nat
  | .lit (.string bytes) => bytes.length + 1
  | .lit _ => 1
  | .nil => 1
  | .ptr d => uptoBulk d + 1
  | .slice elems spare => uptoBulkAll elems + uptoBulkAll spare + 1
  | .agg parts => uptoBulkAll parts + 1
  | .iface _ d => uptoBulk d + 1
  | .map entries => uptoBulkEntries entries + 1
  | .held _ => 1
def uptoBulkAll {H : Type} : List (DataW H) → Nat
  | [] => 0
  | d :: r => uptoBulk d + uptoBulkAll r
def uptoBulkEntries {H : Type} : List (Lit × DataW H) → Nat
  | [] => 0
  | x :: r => uptoBulkEntry x + uptoBulkEntries r
def uptoBulkEntry {H : Type} : Lit × DataW H → Nat
  | (.string bytes, d) => bytes.length + uptoBulk d + 1
  | (_, d) => uptoBulk d + 1
 end
def uptoSmall : (H : Type) → List (DataW H) → Bool := fun _ ds => decide (uptoBulkAll ds ≤ 1048576)
def OpenSpec.upto (s : _root_.Go.ChangeSpec) : _root_.Go.OpenSpec := { _root_.Go.OpenSpec.ofChange s with cond := some uptoSmall }

/-- 'laws.FnVecs', WHERE WHAT IT READS IS OF BULK AT MOST 1048576: true; the input reads as it did. -/
def fnVecsUptoRow : OpenClaim := { program := "ytbnfmgbailfbgab", sum := "a02411b459b66df6b4e8a82990e4d8505c6e00b1ad90e36f30c4b955106c4e83", func := "loop.example/g00660/laws.FnVecs", spec := "fnVecs", apart := false, narrowed := true }
def FnVecsUptoSaid : Prop := fnVecsUptoRow.holds Try.pinned (OpenSpec.upto fnVecsSpec)

/-- 'laws.FnVecWithin', WHERE WHAT IT READS IS OF BULK AT MOST 1048576: true; the input reads as it did. -/
def fnVecWithinUptoRow : OpenClaim := { program := "ytbnfmgbailfbgab", sum := "a02411b459b66df6b4e8a82990e4d8505c6e00b1ad90e36f30c4b955106c4e83", func := "loop.example/g00660/laws.FnVecWithin", spec := "fnVecWithin", apart := false, narrowed := true }
def FnVecWithinUptoSaid : Prop := fnVecWithinUptoRow.holds Try.pinned (OpenSpec.upto fnVecWithinSpec)

/-- 'laws.FnVecThree', WHERE WHAT IT READS IS OF BULK AT MOST 1048576: true; the input reads as it did. -/
def fnVecThreeUptoRow : OpenClaim := { program := "ytbnfmgbailfbgab", sum := "a02411b459b66df6b4e8a82990e4d8505c6e00b1ad90e36f30c4b955106c4e83", func := "loop.example/g00660/laws.FnVecThree", spec := "fnVecThree", apart := false, narrowed := true }
def FnVecThreeUptoSaid : Prop := fnVecThreeUptoRow.holds Try.pinned (OpenSpec.upto fnVecThreeSpec)

/-- 'laws.FnExactVecOk', WHERE WHAT IT READS IS OF BULK AT MOST 1048576: true; the input reads as it did. -/
def fnExactVecOkUptoRow : OpenClaim := { program := "ytbnfmgbailfbgab", sum := "a02411b459b66df6b4e8a82990e4d8505c6e00b1ad90e36f30c4b955106c4e83", func := "loop.example/g00660/laws.FnExactVecOk", spec := "fnExactVecOk", apart := false, narrowed := true }
def FnExactVecOkUptoSaid : Prop := fnExactVecOkUptoRow.holds Try.pinned (OpenSpec.upto fnExactVecOkSpec)

/-- 'laws.FnExactVecMax', WHERE WHAT IT READS IS OF BULK AT MOST 1048576: true; the input reads as it did. -/
def fnExactVecMaxUptoRow : OpenClaim := { program := "ytbnfmgbailfbgab", sum := "a02411b459b66df6b4e8a82990e4d8505c6e00b1ad90e36f30c4b955106c4e83", func := "loop.example/g00660/laws.FnExactVecMax", spec := "fnExactVecMax", apart := false, narrowed := true }
def FnExactVecMaxUptoSaid : Prop := fnExactVecMaxUptoRow.holds Try.pinned (OpenSpec.upto fnExactVecMaxSpec)

/-- 'laws.FnExactVecMin', WHERE WHAT IT READS IS OF BULK AT MOST 1048576: true; the input reads as it did. -/
def fnExactVecMinUptoRow : OpenClaim := { program := "ytbnfmgbailfbgab", sum := "a02411b459b66df6b4e8a82990e4d8505c6e00b1ad90e36f30c4b955106c4e83", func := "loop.example/g00660/laws.FnExactVecMin", spec := "fnExactVecMin", apart := false, narrowed := true }
def FnExactVecMinUptoSaid : Prop := fnExactVecMinUptoRow.holds Try.pinned (OpenSpec.upto fnExactVecMinSpec)

/-- 'laws.FnExactVecWithin', WHERE WHAT IT READS IS OF BULK AT MOST 1048576: true; the input reads as it did. -/
def fnExactVecWithinUptoRow : OpenClaim := { program := "ytbnfmgbailfbgab", sum := "a02411b459b66df6b4e8a82990e4d8505c6e00b1ad90e36f30c4b955106c4e83", func := "loop.example/g00660/laws.FnExactVecWithin", spec := "fnExactVecWithin", apart := false, narrowed := true }
def FnExactVecWithinUptoSaid : Prop := fnExactVecWithinUptoRow.holds Try.pinned (OpenSpec.upto fnExactVecWithinSpec)

end Rows
end Go.Proofs.Ytbnfmgbailfbgab
