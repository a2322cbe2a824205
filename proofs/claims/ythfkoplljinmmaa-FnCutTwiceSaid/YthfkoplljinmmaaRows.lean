/-
  No cell of these rows narrows 'for every input' (looked for: loops, veiled, ifaces, maps, wideKeys, modest, calm, conditions, laid).
  DERIVED. THE GIVEN ROWS OF THIS SEAT. 12 by the template 'for every input the law returns true; each argument reads behind the call as it read before'; 0 by the template 'total and deterministic' (their statements: YthfkoplljinmmaaTotals.lean).
  GIVEN WITH THE SEED: the statements are not yours to turn. If you find one false, say at which input.
  Laid BY PROGRAM, IN A SANDBOX (cutbox-rows.mjs): the forced cells as the released guide's own fill.sh prints them over the translation bd648432c5380d2e… (all of the seat's roots in one cut). By AI agents, Wed Nov 11 2026. No macro, syntax, notation, axiom, sorry.
-/
import Derived.Test.YthfkoplljinmmaaChecked
import GoSem.Claim
import GoSem.ClaimJoined
import GoSem.ClaimMapViews
import Derived.JoinedTies
import Derived.KernelRfl
namespace Go.Proofs.Ythfkoplljinmmaa
/- THE CELL 'sum', in the pinned program and in every row, IS THE sha256 OF THE DUMP (.gsa) THAT YthfkoplljinmmaaProg.lean LOADS. Nothing in Lean hashes anything: it is a label: what it is worth is what the hold of that sum in a sandbox is worth. -/
noncomputable def Try.pinned : Pinned := { name := "ythfkoplljinmmaa", sum := "bd648432c5380d2ece3e5afcd61d090efeb30e58fb9a738d1f92f6dce688baa9", checked := Try.checked }
namespace Rows
def none {H : Type} : Left H := { results := [], args := [] }

/-- 'laws.FnMerged': WHATEVER THE INPUT: true; the input reads as it did. -/
def fnMergedSpec : ChangeSpec := { name := "fnMerged", fn := fun _ => fun
  | [d] => { results := [.lit (.bool true)], args := [d] }
  | _ => none }
def fnMergedRow : OpenClaim := { program := "ythfkoplljinmmaa", sum := "bd648432c5380d2ece3e5afcd61d090efeb30e58fb9a738d1f92f6dce688baa9", func := "loop.example/g00660/laws.FnMerged", spec := "fnMerged", unfollowed := true, recurses := true, plainKeys := false, apart := false }
def FnMergedSaid : Prop := fnMergedRow.holds Try.pinned (OpenSpec.ofChange fnMergedSpec)

/-- ITS FALSE NEIGHBOUR: 'it returns false'. Refute it at one input. -/
def fnMergedWrong : ChangeSpec := { name := "fnMerged", fn := fun _ => fun
  | [d] => { results := [.lit (.bool false)], args := [d] }
  | _ => none }
def FnMergedWrongFalsely : Prop := fnMergedRow.holds Try.pinned (OpenSpec.ofChange fnMergedWrong)

/-- 'laws.FnMergedTwice': WHATEVER THE INPUT: true; the input reads as it did. -/
def fnMergedTwiceSpec : ChangeSpec := { name := "fnMergedTwice", fn := fun _ => fun
  | [d] => { results := [.lit (.bool true)], args := [d] }
  | _ => none }
def fnMergedTwiceRow : OpenClaim := { program := "ythfkoplljinmmaa", sum := "bd648432c5380d2ece3e5afcd61d090efeb30e58fb9a738d1f92f6dce688baa9", func := "loop.example/g00660/laws.FnMergedTwice", spec := "fnMergedTwice", unfollowed := true, recurses := true, plainKeys := false, apart := false }
def FnMergedTwiceSaid : Prop := fnMergedTwiceRow.holds Try.pinned (OpenSpec.ofChange fnMergedTwiceSpec)

/-- ITS FALSE NEIGHBOUR: 'it returns false'. Refute it at one input. -/
def fnMergedTwiceWrong : ChangeSpec := { name := "fnMergedTwice", fn := fun _ => fun
  | [d] => { results := [.lit (.bool false)], args := [d] }
  | _ => none }
def FnMergedTwiceWrongFalsely : Prop := fnMergedTwiceRow.holds Try.pinned (OpenSpec.ofChange fnMergedTwiceWrong)

/-- 'laws.FnWithin': WHATEVER THE INPUT: true; the input reads as it did. -/
def fnWithinSpec : ChangeSpec := { name := "fnWithin", fn := fun _ => fun
  | [d] => { results := [.lit (.bool true)], args := [d] }
  | _ => none }
def fnWithinRow : OpenClaim := { program := "ythfkoplljinmmaa", sum := "bd648432c5380d2ece3e5afcd61d090efeb30e58fb9a738d1f92f6dce688baa9", func := "loop.example/g00660/laws.FnWithin", spec := "fnWithin", unfollowed := true, recurses := true, plainKeys := false, apart := false }
def FnWithinSaid : Prop := fnWithinRow.holds Try.pinned (OpenSpec.ofChange fnWithinSpec)

/-- ITS FALSE NEIGHBOUR: 'it returns false'. Refute it at one input. -/
def fnWithinWrong : ChangeSpec := { name := "fnWithin", fn := fun _ => fun
  | [d] => { results := [.lit (.bool false)], args := [d] }
  | _ => none }
def FnWithinWrongFalsely : Prop := fnWithinRow.holds Try.pinned (OpenSpec.ofChange fnWithinWrong)

/-- 'laws.FnMergedUndos': WHATEVER THE INPUT: true; the input reads as it did. -/
def fnMergedUndosSpec : ChangeSpec := { name := "fnMergedUndos", fn := fun _ => fun
  | [d] => { results := [.lit (.bool true)], args := [d] }
  | _ => none }
def fnMergedUndosRow : OpenClaim := { program := "ythfkoplljinmmaa", sum := "bd648432c5380d2ece3e5afcd61d090efeb30e58fb9a738d1f92f6dce688baa9", func := "loop.example/g00660/laws.FnMergedUndos", spec := "fnMergedUndos", unfollowed := true, recurses := true, plainKeys := false, apart := false }
def FnMergedUndosSaid : Prop := fnMergedUndosRow.holds Try.pinned (OpenSpec.ofChange fnMergedUndosSpec)

/-- ITS FALSE NEIGHBOUR: 'it returns false'. Refute it at one input. -/
def fnMergedUndosWrong : ChangeSpec := { name := "fnMergedUndos", fn := fun _ => fun
  | [d] => { results := [.lit (.bool false)], args := [d] }
  | _ => none }
def FnMergedUndosWrongFalsely : Prop := fnMergedUndosRow.holds Try.pinned (OpenSpec.ofChange fnMergedUndosWrong)

/-- 'laws.FnDeltaLess': WHATEVER THE INPUT: true; the input reads as it did. -/
def fnDeltaLessSpec : ChangeSpec := { name := "fnDeltaLess", fn := fun _ => fun
  | [d] => { results := [.lit (.bool true)], args := [d] }
  | _ => none }
def fnDeltaLessRow : OpenClaim := { program := "ythfkoplljinmmaa", sum := "bd648432c5380d2ece3e5afcd61d090efeb30e58fb9a738d1f92f6dce688baa9", func := "loop.example/g00660/laws.FnDeltaLess", spec := "fnDeltaLess", unfollowed := true, recurses := true, plainKeys := false, apart := false }
def FnDeltaLessSaid : Prop := fnDeltaLessRow.holds Try.pinned (OpenSpec.ofChange fnDeltaLessSpec)

/-- ITS FALSE NEIGHBOUR: 'it returns false'. Refute it at one input. -/
def fnDeltaLessWrong : ChangeSpec := { name := "fnDeltaLess", fn := fun _ => fun
  | [d] => { results := [.lit (.bool false)], args := [d] }
  | _ => none }
def FnDeltaLessWrongFalsely : Prop := fnDeltaLessRow.holds Try.pinned (OpenSpec.ofChange fnDeltaLessWrong)

/-- 'laws.FnToggled': WHATEVER THE INPUT: true; the input reads as it did. -/
def fnToggledSpec : ChangeSpec := { name := "fnToggled", fn := fun _ => fun
  | [d] => { results := [.lit (.bool true)], args := [d] }
  | _ => none }
def fnToggledRow : OpenClaim := { program := "ythfkoplljinmmaa", sum := "bd648432c5380d2ece3e5afcd61d090efeb30e58fb9a738d1f92f6dce688baa9", func := "loop.example/g00660/laws.FnToggled", spec := "fnToggled", unfollowed := true, recurses := true, plainKeys := false, apart := false }
def FnToggledSaid : Prop := fnToggledRow.holds Try.pinned (OpenSpec.ofChange fnToggledSpec)

/-- ITS FALSE NEIGHBOUR: 'it returns false'. Refute it at one input. -/
def fnToggledWrong : ChangeSpec := { name := "fnToggled", fn := fun _ => fun
  | [d] => { results := [.lit (.bool false)], args := [d] }
  | _ => none }
def FnToggledWrongFalsely : Prop := fnToggledRow.holds Try.pinned (OpenSpec.ofChange fnToggledWrong)

/-- 'laws.FnHistory': WHATEVER THE INPUT: true; the input reads as it did. -/
def fnHistorySpec : ChangeSpec := { name := "fnHistory", fn := fun _ => fun
  | [d] => { results := [.lit (.bool true)], args := [d] }
  | _ => none }
def fnHistoryRow : OpenClaim := { program := "ythfkoplljinmmaa", sum := "bd648432c5380d2ece3e5afcd61d090efeb30e58fb9a738d1f92f6dce688baa9", func := "loop.example/g00660/laws.FnHistory", spec := "fnHistory", unfollowed := true, recurses := true, plainKeys := false, apart := false }
def FnHistorySaid : Prop := fnHistoryRow.holds Try.pinned (OpenSpec.ofChange fnHistorySpec)

/-- ITS FALSE NEIGHBOUR: 'it returns false'. Refute it at one input. -/
def fnHistoryWrong : ChangeSpec := { name := "fnHistory", fn := fun _ => fun
  | [d] => { results := [.lit (.bool false)], args := [d] }
  | _ => none }
def FnHistoryWrongFalsely : Prop := fnHistoryRow.holds Try.pinned (OpenSpec.ofChange fnHistoryWrong)

/-- 'laws.FnPages': WHATEVER THE INPUT: true; the input reads as it did. -/
def fnPagesSpec : ChangeSpec := { name := "fnPages", fn := fun _ => fun
  | [d] => { results := [.lit (.bool true)], args := [d] }
  | _ => none }
def fnPagesRow : OpenClaim := { program := "ythfkoplljinmmaa", sum := "bd648432c5380d2ece3e5afcd61d090efeb30e58fb9a738d1f92f6dce688baa9", func := "loop.example/g00660/laws.FnPages", spec := "fnPages", unfollowed := true, recurses := true, plainKeys := false, apart := false }
def FnPagesSaid : Prop := fnPagesRow.holds Try.pinned (OpenSpec.ofChange fnPagesSpec)

/-- ITS FALSE NEIGHBOUR: 'it returns false'. Refute it at one input. -/
def fnPagesWrong : ChangeSpec := { name := "fnPages", fn := fun _ => fun
  | [d] => { results := [.lit (.bool false)], args := [d] }
  | _ => none }
def FnPagesWrongFalsely : Prop := fnPagesRow.holds Try.pinned (OpenSpec.ofChange fnPagesWrong)

/-- 'laws.FnLevelUp': WHATEVER THE INPUT: true; the input reads as it did. -/
def fnLevelUpSpec : ChangeSpec := { name := "fnLevelUp", fn := fun _ => fun
  | [d] => { results := [.lit (.bool true)], args := [d] }
  | _ => none }
def fnLevelUpRow : OpenClaim := { program := "ythfkoplljinmmaa", sum := "bd648432c5380d2ece3e5afcd61d090efeb30e58fb9a738d1f92f6dce688baa9", func := "loop.example/g00660/laws.FnLevelUp", spec := "fnLevelUp", unfollowed := true, recurses := true, plainKeys := false, apart := false }
def FnLevelUpSaid : Prop := fnLevelUpRow.holds Try.pinned (OpenSpec.ofChange fnLevelUpSpec)

/-- ITS FALSE NEIGHBOUR: 'it returns false'. Refute it at one input. -/
def fnLevelUpWrong : ChangeSpec := { name := "fnLevelUp", fn := fun _ => fun
  | [d] => { results := [.lit (.bool false)], args := [d] }
  | _ => none }
def FnLevelUpWrongFalsely : Prop := fnLevelUpRow.holds Try.pinned (OpenSpec.ofChange fnLevelUpWrong)

/-- 'laws.FnCut': WHATEVER THE INPUT: true; the input reads as it did. -/
def fnCutSpec : ChangeSpec := { name := "fnCut", fn := fun _ => fun
  | [d] => { results := [.lit (.bool true)], args := [d] }
  | _ => none }
def fnCutRow : OpenClaim := { program := "ythfkoplljinmmaa", sum := "bd648432c5380d2ece3e5afcd61d090efeb30e58fb9a738d1f92f6dce688baa9", func := "loop.example/g00660/laws.FnCut", spec := "fnCut", unfollowed := true, recurses := true, plainKeys := false, apart := false }
def FnCutSaid : Prop := fnCutRow.holds Try.pinned (OpenSpec.ofChange fnCutSpec)

/-- ITS FALSE NEIGHBOUR: 'it returns false'. Refute it at one input. -/
def fnCutWrong : ChangeSpec := { name := "fnCut", fn := fun _ => fun
  | [d] => { results := [.lit (.bool false)], args := [d] }
  | _ => none }
def FnCutWrongFalsely : Prop := fnCutRow.holds Try.pinned (OpenSpec.ofChange fnCutWrong)

/-- 'laws.FnCutTwice': WHATEVER THE INPUT: true; the input reads as it did. -/
def fnCutTwiceSpec : ChangeSpec := { name := "fnCutTwice", fn := fun _ => fun
  | [d] => { results := [.lit (.bool true)], args := [d] }
  | _ => none }
def fnCutTwiceRow : OpenClaim := { program := "ythfkoplljinmmaa", sum := "bd648432c5380d2ece3e5afcd61d090efeb30e58fb9a738d1f92f6dce688baa9", func := "loop.example/g00660/laws.FnCutTwice", spec := "fnCutTwice", unfollowed := true, recurses := true, plainKeys := false, apart := false }
def FnCutTwiceSaid : Prop := fnCutTwiceRow.holds Try.pinned (OpenSpec.ofChange fnCutTwiceSpec)

/-- ITS FALSE NEIGHBOUR: 'it returns false'. Refute it at one input. -/
def fnCutTwiceWrong : ChangeSpec := { name := "fnCutTwice", fn := fun _ => fun
  | [d] => { results := [.lit (.bool false)], args := [d] }
  | _ => none }
def FnCutTwiceWrongFalsely : Prop := fnCutTwiceRow.holds Try.pinned (OpenSpec.ofChange fnCutTwiceWrong)

/-- 'laws.FnCutMerged': WHATEVER THE INPUT: true; the input reads as it did. -/
def fnCutMergedSpec : ChangeSpec := { name := "fnCutMerged", fn := fun _ => fun
  | [d] => { results := [.lit (.bool true)], args := [d] }
  | _ => none }
def fnCutMergedRow : OpenClaim := { program := "ythfkoplljinmmaa", sum := "bd648432c5380d2ece3e5afcd61d090efeb30e58fb9a738d1f92f6dce688baa9", func := "loop.example/g00660/laws.FnCutMerged", spec := "fnCutMerged", unfollowed := true, recurses := true, plainKeys := false, apart := false }
def FnCutMergedSaid : Prop := fnCutMergedRow.holds Try.pinned (OpenSpec.ofChange fnCutMergedSpec)

/-- ITS FALSE NEIGHBOUR: 'it returns false'. Refute it at one input. -/
def fnCutMergedWrong : ChangeSpec := { name := "fnCutMerged", fn := fun _ => fun
  | [d] => { results := [.lit (.bool false)], args := [d] }
  | _ => none }
def FnCutMergedWrongFalsely : Prop := fnCutMergedRow.holds Try.pinned (OpenSpec.ofChange fnCutMergedWrong)

/- THE SECOND FORM. 'bulk': how many values and letters a reading holds, each counted each time it is reached (what is shared counts as often as it is met; a slice's spare places count too). A statement '..UptoSaid' is the law's where the arguments, and the package variables that the reading takes, are together of bulk at most 1048576: NARROWER than '..Said'. Prove '..Said' where nothing that the law and all that it calls make is longer than what came in: it says more and counts as full. Else prove '..UptoSaid'. A law counts once. -/
mutual
def uptoBulk {H : Type} : DataW H → Nat
  | .lit (.string bytes) => bytes.length + 1
  | .lit _ => 1
  | .nil => 1
  | .ptr d => uptoBulk d + 1
  | .slice elems spare => uptoBulkAll elems + uptoBulkAll spare + 1
  | .agg parts => uptoBulkAll parts + 1
  | .iface _ d => uptoBulk d + 1
  | .map entries => uptoBulkEntries entries + 1
  | .held _ => 1
def uptoBulkAll {H : Type} : List (DataW H) → Nat
  | [] => 0
  | d :: r => uptoBulk d + uptoBulkAll r
def uptoBulkEntries {H : Type} : List (Lit × DataW H) → Nat
  | [] => 0
  | x :: r => uptoBulkEntry x + uptoBulkEntries r
def uptoBulkEntry {H : Type} : Lit × DataW H → Nat
  | (.string bytes, d) => bytes.length + uptoBulk d + 1
  | (_, d) => uptoBulk d + 1
 end
def uptoSmall : (H : Type) → List (DataW H) → Bool := fun _ ds => decide (uptoBulkAll ds ≤ 1048576)
def OpenSpec.upto (s : _root_.Go.ChangeSpec) : _root_.Go.OpenSpec := { _root_.Go.OpenSpec.ofChange s with cond := some uptoSmall }

/-- 'laws.FnMerged', WHERE WHAT IT READS IS OF BULK AT MOST 1048576: true; the input reads as it did. -/
def fnMergedUptoRow : OpenClaim := { program := "ythfkoplljinmmaa", sum := "bd648432c5380d2ece3e5afcd61d090efeb30e58fb9a738d1f92f6dce688baa9", func := "loop.example/g00660/laws.FnMerged", spec := "fnMerged", unfollowed := true, recurses := true, plainKeys := false, apart := false, narrowed := true }
def FnMergedUptoSaid : Prop := fnMergedUptoRow.holds Try.pinned (OpenSpec.upto fnMergedSpec)

/-- 'laws.FnMergedTwice', WHERE WHAT IT READS IS OF BULK AT MOST 1048576: true; the input reads as it did. -/
def fnMergedTwiceUptoRow : OpenClaim := { program := "ythfkoplljinmmaa", sum := "bd648432c5380d2ece3e5afcd61d090efeb30e58fb9a738d1f92f6dce688baa9", func := "loop.example/g00660/laws.FnMergedTwice", spec := "fnMergedTwice", unfollowed := true, recurses := true, plainKeys := false, apart := false, narrowed := true }
def FnMergedTwiceUptoSaid : Prop := fnMergedTwiceUptoRow.holds Try.pinned (OpenSpec.upto fnMergedTwiceSpec)

/-- 'laws.FnWithin', WHERE WHAT IT READS IS OF BULK AT MOST 1048576: true; the input reads as it did. -/
def fnWithinUptoRow : OpenClaim := { program := "ythfkoplljinmmaa", sum := "bd648432c5380d2ece3e5afcd61d090efeb30e58fb9a738d1f92f6dce688baa9", func := "loop.example/g00660/laws.FnWithin", spec := "fnWithin", unfollowed := true, recurses := true, plainKeys := false, apart := false, narrowed := true }
def FnWithinUptoSaid : Prop := fnWithinUptoRow.holds Try.pinned (OpenSpec.upto fnWithinSpec)

/-- 'laws.FnMergedUndos', WHERE WHAT IT READS IS OF BULK AT MOST 1048576: true; the input reads as it did. -/
def fnMergedUndosUptoRow : OpenClaim := { program := "ythfkoplljinmmaa", sum := "bd648432c5380d2ece3e5afcd61d090efeb30e58fb9a738d1f92f6dce688baa9", func := "loop.example/g00660/laws.FnMergedUndos", spec := "fnMergedUndos", unfollowed := true, recurses := true, plainKeys := false, apart := false, narrowed := true }
def FnMergedUndosUptoSaid : Prop := fnMergedUndosUptoRow.holds Try.pinned (OpenSpec.upto fnMergedUndosSpec)

/-- 'laws.FnDeltaLess', WHERE WHAT IT READS IS OF BULK AT MOST 1048576: true; the input reads as it did. -/
def fnDeltaLessUptoRow : OpenClaim := { program := "ythfkoplljinmmaa", sum := "bd648432c5380d2ece3e5afcd61d090efeb30e58fb9a738d1f92f6dce688baa9", func := "loop.example/g00660/laws.FnDeltaLess", spec := "fnDeltaLess", unfollowed := true, recurses := true, plainKeys := false, apart := false, narrowed := true }
def FnDeltaLessUptoSaid : Prop := fnDeltaLessUptoRow.holds Try.pinned (OpenSpec.upto fnDeltaLessSpec)

/-- 'laws.FnToggled', WHERE WHAT IT READS IS OF BULK AT MOST 1048576: true; the input reads as it did. -/
def fnToggledUptoRow : OpenClaim := { program := "ythfkoplljinmmaa", sum := "bd648432c5380d2ece3e5afcd61d090efeb30e58fb9a738d1f92f6dce688baa9", func := "loop.example/g00660/laws.FnToggled", spec := "fnToggled", unfollowed := true, recurses := true, plainKeys := false, apart := false, narrowed := true }
def FnToggledUptoSaid : Prop := fnToggledUptoRow.holds Try.pinned (OpenSpec.upto fnToggledSpec)

/-- 'laws.FnHistory', WHERE WHAT IT READS IS OF BULK AT MOST 1048576: true; the input reads as it did. -/
def fnHistoryUptoRow : OpenClaim := { program := "ythfkoplljinmmaa", sum := "bd648432c5380d2ece3e5afcd61d090efeb30e58fb9a738d1f92f6dce688baa9", func := "loop.example/g00660/laws.FnHistory", spec := "fnHistory", unfollowed := true, recurses := true, plainKeys := false, apart := false, narrowed := true }
def FnHistoryUptoSaid : Prop := fnHistoryUptoRow.holds Try.pinned (OpenSpec.upto fnHistorySpec)

/-- 'laws.FnPages', WHERE WHAT IT READS IS OF BULK AT MOST 1048576: true; the input reads as it did. -/
def fnPagesUptoRow : OpenClaim := { program := "ythfkoplljinmmaa", sum := "bd648432c5380d2ece3e5afcd61d090efeb30e58fb9a738d1f92f6dce688baa9", func := "loop.example/g00660/laws.FnPages", spec := "fnPages", unfollowed := true, recurses := true, plainKeys := false, apart := false, narrowed := true }
def FnPagesUptoSaid : Prop := fnPagesUptoRow.holds Try.pinned (OpenSpec.upto fnPagesSpec)

/-- 'laws.FnLevelUp', WHERE WHAT IT READS IS OF BULK AT MOST 1048576: true; the input reads as it did. -/
def fnLevelUpUptoRow : OpenClaim := { program := "ythfkoplljinmmaa", sum := "bd648432c5380d2ece3e5afcd61d090efeb30e58fb9a738d1f92f6dce688baa9", func := "loop.example/g00660/laws.FnLevelUp", spec := "fnLevelUp", unfollowed := true, recurses := true, plainKeys := false, apart := false, narrowed := true }
def FnLevelUpUptoSaid : Prop := fnLevelUpUptoRow.holds Try.pinned (OpenSpec.upto fnLevelUpSpec)

/-- 'laws.FnCut', WHERE WHAT IT READS IS OF BULK AT MOST 1048576: true; the input reads as it did. -/
def fnCutUptoRow : OpenClaim := { program := "ythfkoplljinmmaa", sum := "bd648432c5380d2ece3e5afcd61d090efeb30e58fb9a738d1f92f6dce688baa9", func := "loop.example/g00660/laws.FnCut", spec := "fnCut", unfollowed := true, recurses := true, plainKeys := false, apart := false, narrowed := true }
def FnCutUptoSaid : Prop := fnCutUptoRow.holds Try.pinned (OpenSpec.upto fnCutSpec)

/-- 'laws.FnCutTwice', WHERE WHAT IT READS IS OF BULK AT MOST 1048576: true; the input reads as it did. -/
def fnCutTwiceUptoRow : OpenClaim := { program := "ythfkoplljinmmaa", sum := "bd648432c5380d2ece3e5afcd61d090efeb30e58fb9a738d1f92f6dce688baa9", func := "loop.example/g00660/laws.FnCutTwice", spec := "fnCutTwice", unfollowed := true, recurses := true, plainKeys := false, apart := false, narrowed := true }
def FnCutTwiceUptoSaid : Prop := fnCutTwiceUptoRow.holds Try.pinned (OpenSpec.upto fnCutTwiceSpec)

/-- 'laws.FnCutMerged', WHERE WHAT IT READS IS OF BULK AT MOST 1048576: true; the input reads as it did. -/
def fnCutMergedUptoRow : OpenClaim := { program := "ythfkoplljinmmaa", sum := "bd648432c5380d2ece3e5afcd61d090efeb30e58fb9a738d1f92f6dce688baa9", func := "loop.example/g00660/laws.FnCutMerged", spec := "fnCutMerged", unfollowed := true, recurses := true, plainKeys := false, apart := false, narrowed := true }
def FnCutMergedUptoSaid : Prop := fnCutMergedUptoRow.holds Try.pinned (OpenSpec.upto fnCutMergedSpec)

end Rows
end Go.Proofs.Ythfkoplljinmmaa
