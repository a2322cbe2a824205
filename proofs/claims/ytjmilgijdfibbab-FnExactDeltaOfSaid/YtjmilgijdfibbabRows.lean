/-
  No cell of these rows narrows 'for every input' (looked for: loops, veiled, ifaces, maps, wideKeys, modest, calm, conditions, laid).
  DERIVED. THE GIVEN ROWS OF THIS SEAT. 9 by the template 'for every input the law returns true; each argument reads behind the call as it read before'; 0 by the template 'total and deterministic' (their statements: YtjmilgijdfibbabTotals.lean).
  GIVEN WITH THE SEED: the statements are not yours to turn. If you find one false, say at which input.
  Laid BY PROGRAM, IN A SANDBOX (cutbox-rows.mjs): the forced cells as the released guide's own fill.sh prints them over the translation acc3607830e765ea… (all of the seat's roots in one cut). By AI agents, Wed Nov 11 2026. No macro, syntax, notation, axiom, sorry.
-/
import Derived.Test.YtjmilgijdfibbabChecked
import GoSem.Claim
import GoSem.ClaimJoined
import GoSem.ClaimMapViews
import Derived.JoinedTies
import Derived.KernelRfl
namespace Go.Proofs.Ytjmilgijdfibbab
/- THE CELL 'sum', in the pinned program and in every row, IS THE sha256 OF THE DUMP (.gsa) THAT YtjmilgijdfibbabProg.lean LOADS. Nothing in Lean hashes anything: it is a label: what it is worth is what the hold of that sum in a sandbox is worth. -/
noncomputable def Try.pinned : Pinned := { name := "ytjmilgijdfibbab", sum := "acc3607830e765ea801b2e0210b0c4e07978062ea7abad4e84ce63317768def1", checked := Try.checked }
namespace Rows
def none {H : Type} : Left H := { results := [], args := [] }

/-- 'laws.FnExactVecMax': WHATEVER THE INPUT: true; the input reads as it did. -/
def fnExactVecMaxSpec : ChangeSpec := { name := "fnExactVecMax", fn := fun _ => fun
  | [d1, d2] => { results := [.lit (.bool true)], args := [d1, d2] }
  | _ => none }
def fnExactVecMaxRow : OpenClaim := { program := "ytjmilgijdfibbab", sum := "acc3607830e765ea801b2e0210b0c4e07978062ea7abad4e84ce63317768def1", func := "loop.example/g00660/laws.FnExactVecMax", spec := "fnExactVecMax", plainKeys := false, apart := false }
def FnExactVecMaxSaid : Prop := fnExactVecMaxRow.holds Try.pinned (OpenSpec.ofChange fnExactVecMaxSpec)

/-- ITS FALSE NEIGHBOUR: 'it returns false'. Refute it at one input. -/
def fnExactVecMaxWrong : ChangeSpec := { name := "fnExactVecMax", fn := fun _ => fun
  | [d1, d2] => { results := [.lit (.bool false)], args := [d1, d2] }
  | _ => none }
def FnExactVecMaxWrongFalsely : Prop := fnExactVecMaxRow.holds Try.pinned (OpenSpec.ofChange fnExactVecMaxWrong)

/-- 'laws.FnExactVecMin': WHATEVER THE INPUT: true; the input reads as it did. -/
def fnExactVecMinSpec : ChangeSpec := { name := "fnExactVecMin", fn := fun _ => fun
  | [d1, d2] => { results := [.lit (.bool true)], args := [d1, d2] }
  | _ => none }
def fnExactVecMinRow : OpenClaim := { program := "ytjmilgijdfibbab", sum := "acc3607830e765ea801b2e0210b0c4e07978062ea7abad4e84ce63317768def1", func := "loop.example/g00660/laws.FnExactVecMin", spec := "fnExactVecMin", plainKeys := false, apart := false }
def FnExactVecMinSaid : Prop := fnExactVecMinRow.holds Try.pinned (OpenSpec.ofChange fnExactVecMinSpec)

/-- ITS FALSE NEIGHBOUR: 'it returns false'. Refute it at one input. -/
def fnExactVecMinWrong : ChangeSpec := { name := "fnExactVecMin", fn := fun _ => fun
  | [d1, d2] => { results := [.lit (.bool false)], args := [d1, d2] }
  | _ => none }
def FnExactVecMinWrongFalsely : Prop := fnExactVecMinRow.holds Try.pinned (OpenSpec.ofChange fnExactVecMinWrong)

/-- 'laws.FnVecs': WHATEVER THE INPUT: true; the input reads as it did. -/
def fnVecsSpec : ChangeSpec := { name := "fnVecs", fn := fun _ => fun
  | [d] => { results := [.lit (.bool true)], args := [d] }
  | _ => none }
def fnVecsRow : OpenClaim := { program := "ytjmilgijdfibbab", sum := "acc3607830e765ea801b2e0210b0c4e07978062ea7abad4e84ce63317768def1", func := "loop.example/g00660/laws.FnVecs", spec := "fnVecs", plainKeys := false, apart := false }
def FnVecsSaid : Prop := fnVecsRow.holds Try.pinned (OpenSpec.ofChange fnVecsSpec)

/-- ITS FALSE NEIGHBOUR: 'it returns false'. Refute it at one input. -/
def fnVecsWrong : ChangeSpec := { name := "fnVecs", fn := fun _ => fun
  | [d] => { results := [.lit (.bool false)], args := [d] }
  | _ => none }
def FnVecsWrongFalsely : Prop := fnVecsRow.holds Try.pinned (OpenSpec.ofChange fnVecsWrong)

/-- 'laws.FnVecWithin': WHATEVER THE INPUT: true; the input reads as it did. -/
def fnVecWithinSpec : ChangeSpec := { name := "fnVecWithin", fn := fun _ => fun
  | [d] => { results := [.lit (.bool true)], args := [d] }
  | _ => none }
def fnVecWithinRow : OpenClaim := { program := "ytjmilgijdfibbab", sum := "acc3607830e765ea801b2e0210b0c4e07978062ea7abad4e84ce63317768def1", func := "loop.example/g00660/laws.FnVecWithin", spec := "fnVecWithin", plainKeys := false, apart := false }
def FnVecWithinSaid : Prop := fnVecWithinRow.holds Try.pinned (OpenSpec.ofChange fnVecWithinSpec)

/-- ITS FALSE NEIGHBOUR: 'it returns false'. Refute it at one input. -/
def fnVecWithinWrong : ChangeSpec := { name := "fnVecWithin", fn := fun _ => fun
  | [d] => { results := [.lit (.bool false)], args := [d] }
  | _ => none }
def FnVecWithinWrongFalsely : Prop := fnVecWithinRow.holds Try.pinned (OpenSpec.ofChange fnVecWithinWrong)

/-- 'laws.FnVecThree': WHATEVER THE INPUT: true; the input reads as it did. -/
def fnVecThreeSpec : ChangeSpec := { name := "fnVecThree", fn := fun _ => fun
  | [d] => { results := [.lit (.bool true)], args := [d] }
  | _ => none }
def fnVecThreeRow : OpenClaim := { program := "ytjmilgijdfibbab", sum := "acc3607830e765ea801b2e0210b0c4e07978062ea7abad4e84ce63317768def1", func := "loop.example/g00660/laws.FnVecThree", spec := "fnVecThree", plainKeys := false, apart := false }
def FnVecThreeSaid : Prop := fnVecThreeRow.holds Try.pinned (OpenSpec.ofChange fnVecThreeSpec)

/-- ITS FALSE NEIGHBOUR: 'it returns false'. Refute it at one input. -/
def fnVecThreeWrong : ChangeSpec := { name := "fnVecThree", fn := fun _ => fun
  | [d] => { results := [.lit (.bool false)], args := [d] }
  | _ => none }
def FnVecThreeWrongFalsely : Prop := fnVecThreeRow.holds Try.pinned (OpenSpec.ofChange fnVecThreeWrong)

/-- 'laws.FnExactMerged': WHATEVER THE INPUT: true; the input reads as it did. -/
def fnExactMergedSpec : ChangeSpec := { name := "fnExactMerged", fn := fun _ => fun
  | [d1, d2] => { results := [.lit (.bool true)], args := [d1, d2] }
  | _ => none }
def fnExactMergedRow : OpenClaim := { program := "ytjmilgijdfibbab", sum := "acc3607830e765ea801b2e0210b0c4e07978062ea7abad4e84ce63317768def1", func := "loop.example/g00660/laws.FnExactMerged", spec := "fnExactMerged", unfollowed := true, recurses := true, plainKeys := false, apart := false }
def FnExactMergedSaid : Prop := fnExactMergedRow.holds Try.pinned (OpenSpec.ofChange fnExactMergedSpec)

/-- ITS FALSE NEIGHBOUR: 'it returns false'. Refute it at one input. -/
def fnExactMergedWrong : ChangeSpec := { name := "fnExactMerged", fn := fun _ => fun
  | [d1, d2] => { results := [.lit (.bool false)], args := [d1, d2] }
  | _ => none }
def FnExactMergedWrongFalsely : Prop := fnExactMergedRow.holds Try.pinned (OpenSpec.ofChange fnExactMergedWrong)

/-- 'laws.FnExactDeltaOf': WHATEVER THE INPUT: true; the input reads as it did. -/
def fnExactDeltaOfSpec : ChangeSpec := { name := "fnExactDeltaOf", fn := fun _ => fun
  | [d1, d2] => { results := [.lit (.bool true)], args := [d1, d2] }
  | _ => none }
def fnExactDeltaOfRow : OpenClaim := { program := "ytjmilgijdfibbab", sum := "acc3607830e765ea801b2e0210b0c4e07978062ea7abad4e84ce63317768def1", func := "loop.example/g00660/laws.FnExactDeltaOf", spec := "fnExactDeltaOf", unfollowed := true, recurses := true, plainKeys := false, apart := false }
def FnExactDeltaOfSaid : Prop := fnExactDeltaOfRow.holds Try.pinned (OpenSpec.ofChange fnExactDeltaOfSpec)

/-- ITS FALSE NEIGHBOUR: 'it returns false'. Refute it at one input. -/
def fnExactDeltaOfWrong : ChangeSpec := { name := "fnExactDeltaOf", fn := fun _ => fun
  | [d1, d2] => { results := [.lit (.bool false)], args := [d1, d2] }
  | _ => none }
def FnExactDeltaOfWrongFalsely : Prop := fnExactDeltaOfRow.holds Try.pinned (OpenSpec.ofChange fnExactDeltaOfWrong)

/-- 'laws.FnExactTaken': WHATEVER THE INPUT: true; the input reads as it did. -/
def fnExactTakenSpec : ChangeSpec := { name := "fnExactTaken", fn := fun _ => fun
  | [d1, d2] => { results := [.lit (.bool true)], args := [d1, d2] }
  | _ => none }
def fnExactTakenRow : OpenClaim := { program := "ytjmilgijdfibbab", sum := "acc3607830e765ea801b2e0210b0c4e07978062ea7abad4e84ce63317768def1", func := "loop.example/g00660/laws.FnExactTaken", spec := "fnExactTaken", unfollowed := true, recurses := true, plainKeys := false, apart := false }
def FnExactTakenSaid : Prop := fnExactTakenRow.holds Try.pinned (OpenSpec.ofChange fnExactTakenSpec)

/-- ITS FALSE NEIGHBOUR: 'it returns false'. Refute it at one input. -/
def fnExactTakenWrong : ChangeSpec := { name := "fnExactTaken", fn := fun _ => fun
  | [d1, d2] => { results := [.lit (.bool false)], args := [d1, d2] }
  | _ => none }
def FnExactTakenWrongFalsely : Prop := fnExactTakenRow.holds Try.pinned (OpenSpec.ofChange fnExactTakenWrong)

/-- 'laws.FnExactCut': WHATEVER THE INPUT: true; the input reads as it did. -/
def fnExactCutSpec : ChangeSpec := { name := "fnExactCut", fn := fun _ => fun
  | [d1, d2] => { results := [.lit (.bool true)], args := [d1, d2] }
  | _ => none }
def fnExactCutRow : OpenClaim := { program := "ytjmilgijdfibbab", sum := "acc3607830e765ea801b2e0210b0c4e07978062ea7abad4e84ce63317768def1", func := "loop.example/g00660/laws.FnExactCut", spec := "fnExactCut", unfollowed := true, recurses := true, plainKeys := false, apart := false }
def FnExactCutSaid : Prop := fnExactCutRow.holds Try.pinned (OpenSpec.ofChange fnExactCutSpec)

/-- ITS FALSE NEIGHBOUR: 'it returns false'. Refute it at one input. -/
def fnExactCutWrong : ChangeSpec := { name := "fnExactCut", fn := fun _ => fun
  | [d1, d2] => { results := [.lit (.bool false)], args := [d1, d2] }
  | _ => none }
def FnExactCutWrongFalsely : Prop := fnExactCutRow.holds Try.pinned (OpenSpec.ofChange fnExactCutWrong)

/- THE SECOND FORM. 'bulk': how many values and letters a reading holds, each counted each time it is reached (what is shared counts as often as it is met; a slice's spare places count too). A statement '..UptoSaid' is the law's where the arguments, and the package variables that the reading takes, are together of bulk at most 1048576: NARROWER than '..Said'. Prove '..Said' where nothing that the law and all that it calls make is longer than what came in: it says more and counts as full. Else prove '..UptoSaid'. A law counts once. -/
mutual
def uptoBulk {H : Type} : DataW H → Nat
  | .lit (.string bytes) => bytes.length + 1
  | .lit _ => 1
  | .nil => 1
  | .ptr d => uptoBulk d + 1
  | .slice elems spare => uptoBulkAll elems + uptoBulkAll spare + 1
  | .agg parts => uptoBulkAll parts + 1
  | .iface _ d => uptoBulk d + 1
  | .map entries => uptoBulkEntries entries + 1
  | .held _ => 1
def uptoBulkAll {H : Type} : List (DataW H) → Nat
  | [] => 0
  | d :: r => uptoBulk d + uptoBulkAll r
def uptoBulkEntries {H : Type} : List (Lit × DataW H) → Nat
  | [] => 0
  | x :: r => uptoBulkEntry x + uptoBulkEntries r
def uptoBulkEntry {H : Type} : Lit × DataW H → Nat
  | (.string bytes, d) => bytes.length + uptoBulk d + 1
  | (_, d) => uptoBulk d + 1
 end
def uptoSmall : (H : Type) → List (DataW H) → Bool := fun _ ds => decide (uptoBulkAll ds ≤ 1048576)
def OpenSpec.upto (s : _root_.Go.ChangeSpec) : _root_.Go.OpenSpec := { _root_.Go.OpenSpec.ofChange s with cond := some uptoSmall }

/-- 'laws.FnExactVecMax', WHERE WHAT IT READS IS OF BULK AT MOST 1048576: true; the input reads as it did. -/
def fnExactVecMaxUptoRow : OpenClaim := { program := "ytjmilgijdfibbab", sum := "acc3607830e765ea801b2e0210b0c4e07978062ea7abad4e84ce63317768def1", func := "loop.example/g00660/laws.FnExactVecMax", spec := "fnExactVecMax", plainKeys := false, apart := false, narrowed := true }
def FnExactVecMaxUptoSaid : Prop := fnExactVecMaxUptoRow.holds Try.pinned (OpenSpec.upto fnExactVecMaxSpec)

/-- 'laws.FnExactVecMin', WHERE WHAT IT READS IS OF BULK AT MOST 1048576: true; the input reads as it did. -/
def fnExactVecMinUptoRow : OpenClaim := { program := "ytjmilgijdfibbab", sum := "acc3607830e765ea801b2e0210b0c4e07978062ea7abad4e84ce63317768def1", func := "loop.example/g00660/laws.FnExactVecMin", spec := "fnExactVecMin", plainKeys := false, apart := false, narrowed := true }
def FnExactVecMinUptoSaid : Prop := fnExactVecMinUptoRow.holds Try.pinned (OpenSpec.upto fnExactVecMinSpec)

/-- 'laws.FnVecs', WHERE WHAT IT READS IS OF BULK AT MOST 1048576: true; the input reads as it did. -/
def fnVecsUptoRow : OpenClaim := { program := "ytjmilgijdfibbab", sum := "acc3607830e765ea801b2e0210b0c4e07978062ea7abad4e84ce63317768def1", func := "loop.example/g00660/laws.FnVecs", spec := "fnVecs", plainKeys := false, apart := false, narrowed := true }
def FnVecsUptoSaid : Prop := fnVecsUptoRow.holds Try.pinned (OpenSpec.upto fnVecsSpec)

/-- 'laws.FnVecWithin', WHERE WHAT IT READS IS OF BULK AT MOST 1048576: true; the input reads as it did. -/
def fnVecWithinUptoRow : OpenClaim := { program := "ytjmilgijdfibbab", sum := "acc3607830e765ea801b2e0210b0c4e07978062ea7abad4e84ce63317768def1", func := "loop.example/g00660/laws.FnVecWithin", spec := "fnVecWithin", plainKeys := false, apart := false, narrowed := true }
def FnVecWithinUptoSaid : Prop := fnVecWithinUptoRow.holds Try.pinned (OpenSpec.upto fnVecWithinSpec)

/-- 'laws.FnVecThree', WHERE WHAT IT READS IS OF BULK AT MOST 1048576: true; the input reads as it did. -/
def fnVecThreeUptoRow : OpenClaim := { program := "ytjmilgijdfibbab", sum := "acc3607830e765ea801b2e0210b0c4e07978062ea7abad4e84ce63317768def1", func := "loop.example/g00660/laws.FnVecThree", spec := "fnVecThree", plainKeys := false, apart := false, narrowed := true }
def FnVecThreeUptoSaid : Prop := fnVecThreeUptoRow.holds Try.pinned (OpenSpec.upto fnVecThreeSpec)

/-- 'laws.FnExactMerged', WHERE WHAT IT READS IS OF BULK AT MOST 1048576: true; the input reads as it did. -/
def fnExactMergedUptoRow : OpenClaim := { program := "ytjmilgijdfibbab", sum := "acc3607830e765ea801b2e0210b0c4e07978062ea7abad4e84ce63317768def1", func := "loop.example/g00660/laws.FnExactMerged", spec := "fnExactMerged", unfollowed := true, recurses := true, plainKeys := false, apart := false, narrowed := true }
def FnExactMergedUptoSaid : Prop := fnExactMergedUptoRow.holds Try.pinned (OpenSpec.upto fnExactMergedSpec)

/-- 'laws.FnExactDeltaOf', WHERE WHAT IT READS IS OF BULK AT MOST 1048576: true; the input reads as it did. -/
def fnExactDeltaOfUptoRow : OpenClaim := { program := "ytjmilgijdfibbab", sum := "acc3607830e765ea801b2e0210b0c4e07978062ea7abad4e84ce63317768def1", func := "loop.example/g00660/laws.FnExactDeltaOf", spec := "fnExactDeltaOf", unfollowed := true, recurses := true, plainKeys := false, apart := false, narrowed := true }
def FnExactDeltaOfUptoSaid : Prop := fnExactDeltaOfUptoRow.holds Try.pinned (OpenSpec.upto fnExactDeltaOfSpec)

/-- 'laws.FnExactTaken', WHERE WHAT IT READS IS OF BULK AT MOST 1048576: true; the input reads as it did. -/
def fnExactTakenUptoRow : OpenClaim := { program := "ytjmilgijdfibbab", sum := "acc3607830e765ea801b2e0210b0c4e07978062ea7abad4e84ce63317768def1", func := "loop.example/g00660/laws.FnExactTaken", spec := "fnExactTaken", unfollowed := true, recurses := true, plainKeys := false, apart := false, narrowed := true }
def FnExactTakenUptoSaid : Prop := fnExactTakenUptoRow.holds Try.pinned (OpenSpec.upto fnExactTakenSpec)

/-- 'laws.FnExactCut', WHERE WHAT IT READS IS OF BULK AT MOST 1048576: true; the input reads as it did. -/
def fnExactCutUptoRow : OpenClaim := { program := "ytjmilgijdfibbab", sum := "acc3607830e765ea801b2e0210b0c4e07978062ea7abad4e84ce63317768def1", func := "loop.example/g00660/laws.FnExactCut", spec := "fnExactCut", unfollowed := true, recurses := true, plainKeys := false, apart := false, narrowed := true }
def FnExactCutUptoSaid : Prop := fnExactCutUptoRow.holds Try.pinned (OpenSpec.upto fnExactCutSpec)

end Rows
end Go.Proofs.Ytjmilgijdfibbab
