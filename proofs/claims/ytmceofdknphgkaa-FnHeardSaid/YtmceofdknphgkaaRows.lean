/-
  No cell of these rows narrows 'for every input' (looked for: loops, veiled, ifaces, maps, wideKeys, modest, calm, conditions, laid).
  DERIVED. THE GIVEN ROWS OF THIS SEAT. 12 by the template 'for every input the law returns true; each argument reads behind the call as it read before'; 0 by the template 'total and deterministic' (their statements: YtmceofdknphgkaaTotals.lean).
  GIVEN WITH THE SEED: the statements are not yours to turn. If you find one false, say at which input.
  Laid BY PROGRAM, IN A SANDBOX (cutbox-rows.mjs): the forced cells as the released guide's own fill.sh prints them over the translation 655c27d0665c9d3c… (all of the seat's roots in one cut). By AI agents, Wed Nov 11 2026. No macro, syntax, notation, axiom, sorry.
-/
import Derived.Test.YtmceofdknphgkaaChecked
import GoSem.Claim
import GoSem.ClaimJoined
import GoSem.ClaimMapViews
import Derived.JoinedTies
import Derived.KernelRfl
namespace Go.Proofs.Ytmceofdknphgkaa
/- THE CELL 'sum', in the pinned program and in every row, IS THE sha256 OF THE DUMP (.gsa) THAT YtmceofdknphgkaaProg.lean LOADS. Nothing in Lean hashes anything: it is a label: what it is worth is what the hold of that sum in a sandbox is worth. -/
noncomputable def Try.pinned : Pinned := { name := "ytmceofdknphgkaa", sum := "655c27d0665c9d3c7a3abecb30b4995aa67c1c732e09b18cc13280aa4e1afb97", checked := Try.checked }
namespace Rows
def none {H : Type} : Left H := { results := [], args := [] }

/-- 'laws.FnDeltaLess': WHATEVER THE INPUT: true; the input reads as it did. -/
def fnDeltaLessSpec : ChangeSpec := { name := "fnDeltaLess", fn := fun _ => fun
  | [d] => { results := [.lit (.bool true)], args := [d] }
  | _ => none }
def fnDeltaLessRow : OpenClaim := { program := "ytmceofdknphgkaa", sum := "655c27d0665c9d3c7a3abecb30b4995aa67c1c732e09b18cc13280aa4e1afb97", func := "loop.example/g00660/laws.FnDeltaLess", spec := "fnDeltaLess", unfollowed := true, recurses := true, plainKeys := false, apart := false }
def FnDeltaLessSaid : Prop := fnDeltaLessRow.holds Try.pinned (OpenSpec.ofChange fnDeltaLessSpec)

/-- ITS FALSE NEIGHBOUR: 'it returns false'. Refute it at one input. -/
def fnDeltaLessWrong : ChangeSpec := { name := "fnDeltaLess", fn := fun _ => fun
  | [d] => { results := [.lit (.bool false)], args := [d] }
  | _ => none }
def FnDeltaLessWrongFalsely : Prop := fnDeltaLessRow.holds Try.pinned (OpenSpec.ofChange fnDeltaLessWrong)

/-- 'laws.FnToggled': WHATEVER THE INPUT: true; the input reads as it did. -/
def fnToggledSpec : ChangeSpec := { name := "fnToggled", fn := fun _ => fun
  | [d] => { results := [.lit (.bool true)], args := [d] }
  | _ => none }
def fnToggledRow : OpenClaim := { program := "ytmceofdknphgkaa", sum := "655c27d0665c9d3c7a3abecb30b4995aa67c1c732e09b18cc13280aa4e1afb97", func := "loop.example/g00660/laws.FnToggled", spec := "fnToggled", unfollowed := true, recurses := true, plainKeys := false, apart := false }
def FnToggledSaid : Prop := fnToggledRow.holds Try.pinned (OpenSpec.ofChange fnToggledSpec)

/-- ITS FALSE NEIGHBOUR: 'it returns false'. Refute it at one input. -/
def fnToggledWrong : ChangeSpec := { name := "fnToggled", fn := fun _ => fun
  | [d] => { results := [.lit (.bool false)], args := [d] }
  | _ => none }
def FnToggledWrongFalsely : Prop := fnToggledRow.holds Try.pinned (OpenSpec.ofChange fnToggledWrong)

/-- 'laws.FnHistory': WHATEVER THE INPUT: true; the input reads as it did. -/
def fnHistorySpec : ChangeSpec := { name := "fnHistory", fn := fun _ => fun
  | [d] => { results := [.lit (.bool true)], args := [d] }
  | _ => none }
def fnHistoryRow : OpenClaim := { program := "ytmceofdknphgkaa", sum := "655c27d0665c9d3c7a3abecb30b4995aa67c1c732e09b18cc13280aa4e1afb97", func := "loop.example/g00660/laws.FnHistory", spec := "fnHistory", unfollowed := true, recurses := true, plainKeys := false, apart := false }
def FnHistorySaid : Prop := fnHistoryRow.holds Try.pinned (OpenSpec.ofChange fnHistorySpec)

/-- ITS FALSE NEIGHBOUR: 'it returns false'. Refute it at one input. -/
def fnHistoryWrong : ChangeSpec := { name := "fnHistory", fn := fun _ => fun
  | [d] => { results := [.lit (.bool false)], args := [d] }
  | _ => none }
def FnHistoryWrongFalsely : Prop := fnHistoryRow.holds Try.pinned (OpenSpec.ofChange fnHistoryWrong)

/-- 'laws.FnPages': WHATEVER THE INPUT: true; the input reads as it did. -/
def fnPagesSpec : ChangeSpec := { name := "fnPages", fn := fun _ => fun
  | [d] => { results := [.lit (.bool true)], args := [d] }
  | _ => none }
def fnPagesRow : OpenClaim := { program := "ytmceofdknphgkaa", sum := "655c27d0665c9d3c7a3abecb30b4995aa67c1c732e09b18cc13280aa4e1afb97", func := "loop.example/g00660/laws.FnPages", spec := "fnPages", unfollowed := true, recurses := true, plainKeys := false, apart := false }
def FnPagesSaid : Prop := fnPagesRow.holds Try.pinned (OpenSpec.ofChange fnPagesSpec)

/-- ITS FALSE NEIGHBOUR: 'it returns false'. Refute it at one input. -/
def fnPagesWrong : ChangeSpec := { name := "fnPages", fn := fun _ => fun
  | [d] => { results := [.lit (.bool false)], args := [d] }
  | _ => none }
def FnPagesWrongFalsely : Prop := fnPagesRow.holds Try.pinned (OpenSpec.ofChange fnPagesWrong)

/-- 'laws.FnLevelUp': WHATEVER THE INPUT: true; the input reads as it did. -/
def fnLevelUpSpec : ChangeSpec := { name := "fnLevelUp", fn := fun _ => fun
  | [d] => { results := [.lit (.bool true)], args := [d] }
  | _ => none }
def fnLevelUpRow : OpenClaim := { program := "ytmceofdknphgkaa", sum := "655c27d0665c9d3c7a3abecb30b4995aa67c1c732e09b18cc13280aa4e1afb97", func := "loop.example/g00660/laws.FnLevelUp", spec := "fnLevelUp", unfollowed := true, recurses := true, plainKeys := false, apart := false }
def FnLevelUpSaid : Prop := fnLevelUpRow.holds Try.pinned (OpenSpec.ofChange fnLevelUpSpec)

/-- ITS FALSE NEIGHBOUR: 'it returns false'. Refute it at one input. -/
def fnLevelUpWrong : ChangeSpec := { name := "fnLevelUp", fn := fun _ => fun
  | [d] => { results := [.lit (.bool false)], args := [d] }
  | _ => none }
def FnLevelUpWrongFalsely : Prop := fnLevelUpRow.holds Try.pinned (OpenSpec.ofChange fnLevelUpWrong)

/-- 'laws.FnTargets': WHATEVER THE INPUT: true; the input reads as it did. -/
def fnTargetsSpec : ChangeSpec := { name := "fnTargets", fn := fun _ => fun
  | [d] => { results := [.lit (.bool true)], args := [d] }
  | _ => none }
def fnTargetsRow : OpenClaim := { program := "ytmceofdknphgkaa", sum := "655c27d0665c9d3c7a3abecb30b4995aa67c1c732e09b18cc13280aa4e1afb97", func := "loop.example/g00660/laws.FnTargets", spec := "fnTargets", unfollowed := true, recurses := true, plainKeys := false, apart := false }
def FnTargetsSaid : Prop := fnTargetsRow.holds Try.pinned (OpenSpec.ofChange fnTargetsSpec)

/-- ITS FALSE NEIGHBOUR: 'it returns false'. Refute it at one input. -/
def fnTargetsWrong : ChangeSpec := { name := "fnTargets", fn := fun _ => fun
  | [d] => { results := [.lit (.bool false)], args := [d] }
  | _ => none }
def FnTargetsWrongFalsely : Prop := fnTargetsRow.holds Try.pinned (OpenSpec.ofChange fnTargetsWrong)

/-- 'laws.FnExactCut': WHATEVER THE INPUT: true; the input reads as it did. -/
def fnExactCutSpec : ChangeSpec := { name := "fnExactCut", fn := fun _ => fun
  | [d1, d2] => { results := [.lit (.bool true)], args := [d1, d2] }
  | _ => none }
def fnExactCutRow : OpenClaim := { program := "ytmceofdknphgkaa", sum := "655c27d0665c9d3c7a3abecb30b4995aa67c1c732e09b18cc13280aa4e1afb97", func := "loop.example/g00660/laws.FnExactCut", spec := "fnExactCut", unfollowed := true, recurses := true, plainKeys := false, apart := false }
def FnExactCutSaid : Prop := fnExactCutRow.holds Try.pinned (OpenSpec.ofChange fnExactCutSpec)

/-- ITS FALSE NEIGHBOUR: 'it returns false'. Refute it at one input. -/
def fnExactCutWrong : ChangeSpec := { name := "fnExactCut", fn := fun _ => fun
  | [d1, d2] => { results := [.lit (.bool false)], args := [d1, d2] }
  | _ => none }
def FnExactCutWrongFalsely : Prop := fnExactCutRow.holds Try.pinned (OpenSpec.ofChange fnExactCutWrong)

/-- 'laws.FnStableCut': WHATEVER THE INPUT: true; the input reads as it did. -/
def fnStableCutSpec : ChangeSpec := { name := "fnStableCut", fn := fun _ => fun
  | [d] => { results := [.lit (.bool true)], args := [d] }
  | _ => none }
def fnStableCutRow : OpenClaim := { program := "ytmceofdknphgkaa", sum := "655c27d0665c9d3c7a3abecb30b4995aa67c1c732e09b18cc13280aa4e1afb97", func := "loop.example/g00660/laws.FnStableCut", spec := "fnStableCut", unfollowed := true, recurses := true, plainKeys := false, apart := false }
def FnStableCutSaid : Prop := fnStableCutRow.holds Try.pinned (OpenSpec.ofChange fnStableCutSpec)

/-- ITS FALSE NEIGHBOUR: 'it returns false'. Refute it at one input. -/
def fnStableCutWrong : ChangeSpec := { name := "fnStableCut", fn := fun _ => fun
  | [d] => { results := [.lit (.bool false)], args := [d] }
  | _ => none }
def FnStableCutWrongFalsely : Prop := fnStableCutRow.holds Try.pinned (OpenSpec.ofChange fnStableCutWrong)

/-- 'laws.FnHeard': WHATEVER THE INPUT: true; the input reads as it did. -/
def fnHeardSpec : ChangeSpec := { name := "fnHeard", fn := fun _ => fun
  | [d] => { results := [.lit (.bool true)], args := [d] }
  | _ => none }
def fnHeardRow : OpenClaim := { program := "ytmceofdknphgkaa", sum := "655c27d0665c9d3c7a3abecb30b4995aa67c1c732e09b18cc13280aa4e1afb97", func := "loop.example/g00660/laws.FnHeard", spec := "fnHeard", plainKeys := false, apart := false }
def FnHeardSaid : Prop := fnHeardRow.holds Try.pinned (OpenSpec.ofChange fnHeardSpec)

/-- ITS FALSE NEIGHBOUR: 'it returns false'. Refute it at one input. -/
def fnHeardWrong : ChangeSpec := { name := "fnHeard", fn := fun _ => fun
  | [d] => { results := [.lit (.bool false)], args := [d] }
  | _ => none }
def FnHeardWrongFalsely : Prop := fnHeardRow.holds Try.pinned (OpenSpec.ofChange fnHeardWrong)

/-- 'laws.FnDeltas': WHATEVER THE INPUT: true; the input reads as it did. -/
def fnDeltasSpec : ChangeSpec := { name := "fnDeltas", fn := fun _ => fun
  | [d] => { results := [.lit (.bool true)], args := [d] }
  | _ => none }
def fnDeltasRow : OpenClaim := { program := "ytmceofdknphgkaa", sum := "655c27d0665c9d3c7a3abecb30b4995aa67c1c732e09b18cc13280aa4e1afb97", func := "loop.example/g00660/laws.FnDeltas", spec := "fnDeltas", unfollowed := true, recurses := true, plainKeys := false, apart := false }
def FnDeltasSaid : Prop := fnDeltasRow.holds Try.pinned (OpenSpec.ofChange fnDeltasSpec)

/-- ITS FALSE NEIGHBOUR: 'it returns false'. Refute it at one input. -/
def fnDeltasWrong : ChangeSpec := { name := "fnDeltas", fn := fun _ => fun
  | [d] => { results := [.lit (.bool false)], args := [d] }
  | _ => none }
def FnDeltasWrongFalsely : Prop := fnDeltasRow.holds Try.pinned (OpenSpec.ofChange fnDeltasWrong)

/-- 'laws.FnTaken': WHATEVER THE INPUT: true; the input reads as it did. -/
def fnTakenSpec : ChangeSpec := { name := "fnTaken", fn := fun _ => fun
  | [d] => { results := [.lit (.bool true)], args := [d] }
  | _ => none }
def fnTakenRow : OpenClaim := { program := "ytmceofdknphgkaa", sum := "655c27d0665c9d3c7a3abecb30b4995aa67c1c732e09b18cc13280aa4e1afb97", func := "loop.example/g00660/laws.FnTaken", spec := "fnTaken", unfollowed := true, recurses := true, plainKeys := false, apart := false }
def FnTakenSaid : Prop := fnTakenRow.holds Try.pinned (OpenSpec.ofChange fnTakenSpec)

/-- ITS FALSE NEIGHBOUR: 'it returns false'. Refute it at one input. -/
def fnTakenWrong : ChangeSpec := { name := "fnTaken", fn := fun _ => fun
  | [d] => { results := [.lit (.bool false)], args := [d] }
  | _ => none }
def FnTakenWrongFalsely : Prop := fnTakenRow.holds Try.pinned (OpenSpec.ofChange fnTakenWrong)

/-- 'laws.FnExactTaken': WHATEVER THE INPUT: true; the input reads as it did. -/
def fnExactTakenSpec : ChangeSpec := { name := "fnExactTaken", fn := fun _ => fun
  | [d1, d2] => { results := [.lit (.bool true)], args := [d1, d2] }
  | _ => none }
def fnExactTakenRow : OpenClaim := { program := "ytmceofdknphgkaa", sum := "655c27d0665c9d3c7a3abecb30b4995aa67c1c732e09b18cc13280aa4e1afb97", func := "loop.example/g00660/laws.FnExactTaken", spec := "fnExactTaken", unfollowed := true, recurses := true, plainKeys := false, apart := false }
def FnExactTakenSaid : Prop := fnExactTakenRow.holds Try.pinned (OpenSpec.ofChange fnExactTakenSpec)

/-- ITS FALSE NEIGHBOUR: 'it returns false'. Refute it at one input. -/
def fnExactTakenWrong : ChangeSpec := { name := "fnExactTaken", fn := fun _ => fun
  | [d1, d2] => { results := [.lit (.bool false)], args := [d1, d2] }
  | _ => none }
def FnExactTakenWrongFalsely : Prop := fnExactTakenRow.holds Try.pinned (OpenSpec.ofChange fnExactTakenWrong)

/- THE SECOND FORM. 'bulk': how many values and letters a reading holds, each counted each time it is reached (what is shared counts as often as it is met; a slice's spare places count too). A statement '..UptoSaid' is the law's where the arguments, and the package variables that the reading takes, are together of bulk at most 1048576: NARROWER than '..Said'. Prove '..Said' where nothing that the law and all that it calls make is longer than what came in: it says more and counts as full. Else prove '..UptoSaid'. A law counts once. -/
mutual
def uptoBulk {H : Type} : DataW H → Nat
  | .lit (.string bytes) => bytes.length + 1
  | .lit _ => 1
  | .nil => 1
  | .ptr d => uptoBulk d + 1
  | .slice elems spare => uptoBulkAll elems + uptoBulkAll spare + 1
  | .agg parts => uptoBulkAll parts + 1
  | .iface _ d => uptoBulk d + 1
  | .map entries => uptoBulkEntries entries + 1
  | .held _ => 1
def uptoBulkAll {H : Type} : List (DataW H) → Nat
  | [] => 0
  | d :: r => uptoBulk d + uptoBulkAll r
def uptoBulkEntries {H : Type} : List (Lit × DataW H) → Nat
  | [] => 0
  | x :: r => uptoBulkEntry x + uptoBulkEntries r
def uptoBulkEntry {H : Type} : Lit × DataW H → Nat
  | (.string bytes, d) => bytes.length + uptoBulk d + 1
  | (_, d) => uptoBulk d + 1
 end
def uptoSmall : (H : Type) → List (DataW H) → Bool := fun _ ds => decide (uptoBulkAll ds ≤ 1048576)
def OpenSpec.upto (s : _root_.Go.ChangeSpec) : _root_.Go.OpenSpec := { _root_.Go.OpenSpec.ofChange s with cond := some uptoSmall }

/-- 'laws.FnDeltaLess', WHERE WHAT IT READS IS OF BULK AT MOST 1048576: true; the input reads as it did. -/
def fnDeltaLessUptoRow : OpenClaim := { program := "ytmceofdknphgkaa", sum := "655c27d0665c9d3c7a3abecb30b4995aa67c1c732e09b18cc13280aa4e1afb97", func := "loop.example/g00660/laws.FnDeltaLess", spec := "fnDeltaLess", unfollowed := true, recurses := true, plainKeys := false, apart := false, narrowed := true }
def FnDeltaLessUptoSaid : Prop := fnDeltaLessUptoRow.holds Try.pinned (OpenSpec.upto fnDeltaLessSpec)

/-- 'laws.FnToggled', WHERE WHAT IT READS IS OF BULK AT MOST 1048576: true; the input reads as it did. -/
def fnToggledUptoRow : OpenClaim := { program := "ytmceofdknphgkaa", sum := "655c27d0665c9d3c7a3abecb30b4995aa67c1c732e09b18cc13280aa4e1afb97", func := "loop.example/g00660/laws.FnToggled", spec := "fnToggled", unfollowed := true, recurses := true, plainKeys := false, apart := false, narrowed := true }
def FnToggledUptoSaid : Prop := fnToggledUptoRow.holds Try.pinned (OpenSpec.upto fnToggledSpec)

/-- 'laws.FnHistory', WHERE WHAT IT READS IS OF BULK AT MOST 1048576: true; the input reads as it did. -/
def fnHistoryUptoRow : OpenClaim := { program := "ytmceofdknphgkaa", sum := "655c27d0665c9d3c7a3abecb30b4995aa67c1c732e09b18cc13280aa4e1afb97", func := "loop.example/g00660/laws.FnHistory", spec := "fnHistory", unfollowed := true, recurses := true, plainKeys := false, apart := false, narrowed := true }
def FnHistoryUptoSaid : Prop := fnHistoryUptoRow.holds Try.pinned (OpenSpec.upto fnHistorySpec)

/-- 'laws.FnPages', WHERE WHAT IT READS IS OF BULK AT MOST 1048576: true; the input reads as it did. -/
def fnPagesUptoRow : OpenClaim := { program := "ytmceofdknphgkaa", sum := "655c27d0665c9d3c7a3abecb30b4995aa67c1c732e09b18cc13280aa4e1afb97", func := "loop.example/g00660/laws.FnPages", spec := "fnPages", unfollowed := true, recurses := true, plainKeys := false, apart := false, narrowed := true }
def FnPagesUptoSaid : Prop := fnPagesUptoRow.holds Try.pinned (OpenSpec.upto fnPagesSpec)

/-- 'laws.FnLevelUp', WHERE WHAT IT READS IS OF BULK AT MOST 1048576: true; the input reads as it did. -/
def fnLevelUpUptoRow : OpenClaim := { program := "ytmceofdknphgkaa", sum := "655c27d0665c9d3c7a3abecb30b4995aa67c1c732e09b18cc13280aa4e1afb97", func := "loop.example/g00660/laws.FnLevelUp", spec := "fnLevelUp", unfollowed := true, recurses := true, plainKeys := false, apart := false, narrowed := true }
def FnLevelUpUptoSaid : Prop := fnLevelUpUptoRow.holds Try.pinned (OpenSpec.upto fnLevelUpSpec)

/-- 'laws.FnTargets', WHERE WHAT IT READS IS OF BULK AT MOST 1048576: true; the input reads as it did. -/
def fnTargetsUptoRow : OpenClaim := { program := "ytmceofdknphgkaa", sum := "655c27d0665c9d3c7a3abecb30b4995aa67c1c732e09b18cc13280aa4e1afb97", func := "loop.example/g00660/laws.FnTargets", spec := "fnTargets", unfollowed := true, recurses := true, plainKeys := false, apart := false, narrowed := true }
def FnTargetsUptoSaid : Prop := fnTargetsUptoRow.holds Try.pinned (OpenSpec.upto fnTargetsSpec)

/-- 'laws.FnExactCut', WHERE WHAT IT READS IS OF BULK AT MOST 1048576: true; the input reads as it did. -/
def fnExactCutUptoRow : OpenClaim := { program := "ytmceofdknphgkaa", sum := "655c27d0665c9d3c7a3abecb30b4995aa67c1c732e09b18cc13280aa4e1afb97", func := "loop.example/g00660/laws.FnExactCut", spec := "fnExactCut", unfollowed := true, recurses := true, plainKeys := false, apart := false, narrowed := true }
def FnExactCutUptoSaid : Prop := fnExactCutUptoRow.holds Try.pinned (OpenSpec.upto fnExactCutSpec)

/-- 'laws.FnStableCut', WHERE WHAT IT READS IS OF BULK AT MOST 1048576: true; the input reads as it did. -/
def fnStableCutUptoRow : OpenClaim := { program := "ytmceofdknphgkaa", sum := "655c27d0665c9d3c7a3abecb30b4995aa67c1c732e09b18cc13280aa4e1afb97", func := "loop.example/g00660/laws.FnStableCut", spec := "fnStableCut", unfollowed := true, recurses := true, plainKeys := false, apart := false, narrowed := true }
def FnStableCutUptoSaid : Prop := fnStableCutUptoRow.holds Try.pinned (OpenSpec.upto fnStableCutSpec)

/-- 'laws.FnHeard', WHERE WHAT IT READS IS OF BULK AT MOST 1048576: true; the input reads as it did. -/
def fnHeardUptoRow : OpenClaim := { program := "ytmceofdknphgkaa", sum := "655c27d0665c9d3c7a3abecb30b4995aa67c1c732e09b18cc13280aa4e1afb97", func := "loop.example/g00660/laws.FnHeard", spec := "fnHeard", plainKeys := false, apart := false, narrowed := true }
def FnHeardUptoSaid : Prop := fnHeardUptoRow.holds Try.pinned (OpenSpec.upto fnHeardSpec)

/-- 'laws.FnDeltas', WHERE WHAT IT READS IS OF BULK AT MOST 1048576: true; the input reads as it did. -/
def fnDeltasUptoRow : OpenClaim := { program := "ytmceofdknphgkaa", sum := "655c27d0665c9d3c7a3abecb30b4995aa67c1c732e09b18cc13280aa4e1afb97", func := "loop.example/g00660/laws.FnDeltas", spec := "fnDeltas", unfollowed := true, recurses := true, plainKeys := false, apart := false, narrowed := true }
def FnDeltasUptoSaid : Prop := fnDeltasUptoRow.holds Try.pinned (OpenSpec.upto fnDeltasSpec)

/-- 'laws.FnTaken', WHERE WHAT IT READS IS OF BULK AT MOST 1048576: true; the input reads as it did. -/
def fnTakenUptoRow : OpenClaim := { program := "ytmceofdknphgkaa", sum := "655c27d0665c9d3c7a3abecb30b4995aa67c1c732e09b18cc13280aa4e1afb97", func := "loop.example/g00660/laws.FnTaken", spec := "fnTaken", unfollowed := true, recurses := true, plainKeys := false, apart := false, narrowed := true }
def FnTakenUptoSaid : Prop := fnTakenUptoRow.holds Try.pinned (OpenSpec.upto fnTakenSpec)

/-- 'laws.FnExactTaken', WHERE WHAT IT READS IS OF BULK AT MOST 1048576: true; the input reads as it did. -/
def fnExactTakenUptoRow : OpenClaim := { program := "ytmceofdknphgkaa", sum := "655c27d0665c9d3c7a3abecb30b4995aa67c1c732e09b18cc13280aa4e1afb97", func := "loop.example/g00660/laws.FnExactTaken", spec := "fnExactTaken", unfollowed := true, recurses := true, plainKeys := false, apart := false, narrowed := true }
def FnExactTakenUptoSaid : Prop := fnExactTakenUptoRow.holds Try.pinned (OpenSpec.upto fnExactTakenSpec)

end Rows
end Go.Proofs.Ytmceofdknphgkaa
