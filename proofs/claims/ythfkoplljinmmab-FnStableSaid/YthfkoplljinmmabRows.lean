/-
  No cell of these rows narrows 'for every input' (looked for: loops, veiled, ifaces, maps, wideKeys, modest, calm, conditions, laid).
  DERIVED. THE GIVEN ROWS OF THIS SEAT. 6 by the template 'for every input the law returns true; each argument reads behind the call as it read before'; 0 by the template 'total and deterministic' (their statements: YthfkoplljinmmabTotals.lean).
  GIVEN WITH THE SEED: the statements are not yours to turn. If you find one false, say at which input.
  Laid BY PROGRAM, IN A SANDBOX (cutbox-rows.mjs): the forced cells as the released guide's own fill.sh prints them over the translation da6c2d66179acf8b… (all of the seat's roots in one cut). By AI agents, Wed Nov 11 2026. No macro, syntax, notation, axiom, sorry.
-/
import Derived.Test.YthfkoplljinmmabChecked
import GoSem.Claim
import GoSem.ClaimJoined
import GoSem.ClaimMapViews
import Derived.JoinedTies
import Derived.KernelRfl
namespace Go.Proofs.Ythfkoplljinmmab
/- THE CELL 'sum', in the pinned program and in every row, IS THE sha256 OF THE DUMP (.gsa) THAT YthfkoplljinmmabProg.lean LOADS. Nothing in Lean hashes anything: it is a label: what it is worth is what the hold of that sum in a sandbox is worth. -/
noncomputable def Try.pinned : Pinned := { name := "ythfkoplljinmmab", sum := "da6c2d66179acf8ba24ae985688cc0352c4c728a8b5e2eb0f92c20fab8adf448", checked := Try.checked }
namespace Rows
def none {H : Type} : Left H := { results := [], args := [] }

/-- 'laws.FnHeard': WHATEVER THE INPUT: true; the input reads as it did. -/
def fnHeardSpec : ChangeSpec := { name := "fnHeard", fn := fun _ => fun
  | [d] => { results := [.lit (.bool true)], args := [d] }
  | _ => none }
def fnHeardRow : OpenClaim := { program := "ythfkoplljinmmab", sum := "da6c2d66179acf8ba24ae985688cc0352c4c728a8b5e2eb0f92c20fab8adf448", func := "loop.example/g00660/laws.FnHeard", spec := "fnHeard", plainKeys := false, apart := false }
def FnHeardSaid : Prop := fnHeardRow.holds Try.pinned (OpenSpec.ofChange fnHeardSpec)

/-- ITS FALSE NEIGHBOUR: 'it returns false'. Refute it at one input. -/
def fnHeardWrong : ChangeSpec := { name := "fnHeard", fn := fun _ => fun
  | [d] => { results := [.lit (.bool false)], args := [d] }
  | _ => none }
def FnHeardWrongFalsely : Prop := fnHeardRow.holds Try.pinned (OpenSpec.ofChange fnHeardWrong)

/-- 'laws.FnStable': WHATEVER THE INPUT: true; the input reads as it did. -/
def fnStableSpec : ChangeSpec := { name := "fnStable", fn := fun _ => fun
  | [d] => { results := [.lit (.bool true)], args := [d] }
  | _ => none }
def fnStableRow : OpenClaim := { program := "ythfkoplljinmmab", sum := "da6c2d66179acf8ba24ae985688cc0352c4c728a8b5e2eb0f92c20fab8adf448", func := "loop.example/g00660/laws.FnStable", spec := "fnStable", plainKeys := false, apart := false }
def FnStableSaid : Prop := fnStableRow.holds Try.pinned (OpenSpec.ofChange fnStableSpec)

/-- ITS FALSE NEIGHBOUR: 'it returns false'. Refute it at one input. -/
def fnStableWrong : ChangeSpec := { name := "fnStable", fn := fun _ => fun
  | [d] => { results := [.lit (.bool false)], args := [d] }
  | _ => none }
def FnStableWrongFalsely : Prop := fnStableRow.holds Try.pinned (OpenSpec.ofChange fnStableWrong)

/-- 'laws.FnStableCut': WHATEVER THE INPUT: true; the input reads as it did. -/
def fnStableCutSpec : ChangeSpec := { name := "fnStableCut", fn := fun _ => fun
  | [d] => { results := [.lit (.bool true)], args := [d] }
  | _ => none }
def fnStableCutRow : OpenClaim := { program := "ythfkoplljinmmab", sum := "da6c2d66179acf8ba24ae985688cc0352c4c728a8b5e2eb0f92c20fab8adf448", func := "loop.example/g00660/laws.FnStableCut", spec := "fnStableCut", unfollowed := true, recurses := true, plainKeys := false, apart := false }
def FnStableCutSaid : Prop := fnStableCutRow.holds Try.pinned (OpenSpec.ofChange fnStableCutSpec)

/-- ITS FALSE NEIGHBOUR: 'it returns false'. Refute it at one input. -/
def fnStableCutWrong : ChangeSpec := { name := "fnStableCut", fn := fun _ => fun
  | [d] => { results := [.lit (.bool false)], args := [d] }
  | _ => none }
def FnStableCutWrongFalsely : Prop := fnStableCutRow.holds Try.pinned (OpenSpec.ofChange fnStableCutWrong)

/-- 'laws.FnExactCut': WHATEVER THE INPUT: true; the input reads as it did. -/
def fnExactCutSpec : ChangeSpec := { name := "fnExactCut", fn := fun _ => fun
  | [d1, d2] => { results := [.lit (.bool true)], args := [d1, d2] }
  | _ => none }
def fnExactCutRow : OpenClaim := { program := "ythfkoplljinmmab", sum := "da6c2d66179acf8ba24ae985688cc0352c4c728a8b5e2eb0f92c20fab8adf448", func := "loop.example/g00660/laws.FnExactCut", spec := "fnExactCut", unfollowed := true, recurses := true, plainKeys := false, apart := false }
def FnExactCutSaid : Prop := fnExactCutRow.holds Try.pinned (OpenSpec.ofChange fnExactCutSpec)

/-- ITS FALSE NEIGHBOUR: 'it returns false'. Refute it at one input. -/
def fnExactCutWrong : ChangeSpec := { name := "fnExactCut", fn := fun _ => fun
  | [d1, d2] => { results := [.lit (.bool false)], args := [d1, d2] }
  | _ => none }
def FnExactCutWrongFalsely : Prop := fnExactCutRow.holds Try.pinned (OpenSpec.ofChange fnExactCutWrong)

/-- 'laws.FnExactTaken': WHATEVER THE INPUT: true; the input reads as it did. -/
def fnExactTakenSpec : ChangeSpec := { name := "fnExactTaken", fn := fun _ => fun
  | [d1, d2] => { results := [.lit (.bool true)], args := [d1, d2] }
  | _ => none }
def fnExactTakenRow : OpenClaim := { program := "ythfkoplljinmmab", sum := "da6c2d66179acf8ba24ae985688cc0352c4c728a8b5e2eb0f92c20fab8adf448", func := "loop.example/g00660/laws.FnExactTaken", spec := "fnExactTaken", unfollowed := true, recurses := true, plainKeys := false, apart := false }
def FnExactTakenSaid : Prop := fnExactTakenRow.holds Try.pinned (OpenSpec.ofChange fnExactTakenSpec)

/-- ITS FALSE NEIGHBOUR: 'it returns false'. Refute it at one input. -/
def fnExactTakenWrong : ChangeSpec := { name := "fnExactTaken", fn := fun _ => fun
  | [d1, d2] => { results := [.lit (.bool false)], args := [d1, d2] }
  | _ => none }
def FnExactTakenWrongFalsely : Prop := fnExactTakenRow.holds Try.pinned (OpenSpec.ofChange fnExactTakenWrong)

/-- 'laws.FnExactBill': WHATEVER THE INPUT: true; the input reads as it did. -/
def fnExactBillSpec : ChangeSpec := { name := "fnExactBill", fn := fun _ => fun
  | [d1, d2, d3] => { results := [.lit (.bool true)], args := [d1, d2, d3] }
  | _ => none }
def fnExactBillRow : OpenClaim := { program := "ythfkoplljinmmab", sum := "da6c2d66179acf8ba24ae985688cc0352c4c728a8b5e2eb0f92c20fab8adf448", func := "loop.example/g00660/laws.FnExactBill", spec := "fnExactBill", unfollowed := true, recurses := true, plainKeys := false, apart := false }
def FnExactBillSaid : Prop := fnExactBillRow.holds Try.pinned (OpenSpec.ofChange fnExactBillSpec)

/-- ITS FALSE NEIGHBOUR: 'it returns false'. Refute it at one input. -/
def fnExactBillWrong : ChangeSpec := { name := "fnExactBill", fn := fun _ => fun
  | [d1, d2, d3] => { results := [.lit (.bool false)], args := [d1, d2, d3] }
  | _ => none }
def FnExactBillWrongFalsely : Prop := fnExactBillRow.holds Try.pinned (OpenSpec.ofChange fnExactBillWrong)

/- THE SECOND FORM. 'bulk': how many values and letters a reading holds, each counted each time it is reached (what is shared counts as often as it is met; a slice's spare places count too). A statement '..UptoSaid' is the law's where the arguments, and the package variables that the reading takes, are together of bulk at most 1048576: NARROWER than '..Said'. Prove '..Said' where nothing that the law and all that it calls make is longer than what came in: it says more and counts as full. Else prove '..UptoSaid'. A law counts once. -/
mutual
def uptoBulk {H : Type} : DataW H → Nat
  | .lit (.string bytes) => bytes.length + 1
  | .lit _ => 1
  | .nil => 1
  | .ptr d => uptoBulk d + 1
  | .slice elems spare => uptoBulkAll elems + uptoBulkAll spare + 1
  | .agg parts => uptoBulkAll parts + 1
  | .iface _ d => uptoBulk d + 1
  | .map entries => uptoBulkEntries entries + 1
  | .held _ => 1
def uptoBulkAll {H : Type} : List (DataW H) → Nat
  | [] => 0
  | d :: r => uptoBulk d + uptoBulkAll r
def uptoBulkEntries {H : Type} : List (Lit × DataW H) → Nat
  | [] => 0
  | x :: r => uptoBulkEntry x + uptoBulkEntries r
def uptoBulkEntry {H : Type} : Lit × DataW H → Nat
  | (.string bytes, d) => bytes.length + uptoBulk d + 1
  | (_, d) => uptoBulk d + 1
 end
def uptoSmall : (H : Type) → List (DataW H) → Bool := fun _ ds => decide (uptoBulkAll ds ≤ 1048576)
def OpenSpec.upto (s : _root_.Go.ChangeSpec) : _root_.Go.OpenSpec := { _root_.Go.OpenSpec.ofChange s with cond := some uptoSmall }

/-- 'laws.FnHeard', WHERE WHAT IT READS IS OF BULK AT MOST 1048576: true; the input reads as it did. -/
def fnHeardUptoRow : OpenClaim := { program := "ythfkoplljinmmab", sum := "da6c2d66179acf8ba24ae985688cc0352c4c728a8b5e2eb0f92c20fab8adf448", func := "loop.example/g00660/laws.FnHeard", spec := "fnHeard", plainKeys := false, apart := false, narrowed := true }
def FnHeardUptoSaid : Prop := fnHeardUptoRow.holds Try.pinned (OpenSpec.upto fnHeardSpec)

/-- 'laws.FnStable', WHERE WHAT IT READS IS OF BULK AT MOST 1048576: true; the input reads as it did. -/
def fnStableUptoRow : OpenClaim := { program := "ythfkoplljinmmab", sum := "da6c2d66179acf8ba24ae985688cc0352c4c728a8b5e2eb0f92c20fab8adf448", func := "loop.example/g00660/laws.FnStable", spec := "fnStable", plainKeys := false, apart := false, narrowed := true }
def FnStableUptoSaid : Prop := fnStableUptoRow.holds Try.pinned (OpenSpec.upto fnStableSpec)

/-- 'laws.FnStableCut', WHERE WHAT IT READS IS OF BULK AT MOST 1048576: true; the input reads as it did. -/
def fnStableCutUptoRow : OpenClaim := { program := "ythfkoplljinmmab", sum := "da6c2d66179acf8ba24ae985688cc0352c4c728a8b5e2eb0f92c20fab8adf448", func := "loop.example/g00660/laws.FnStableCut", spec := "fnStableCut", unfollowed := true, recurses := true, plainKeys := false, apart := false, narrowed := true }
def FnStableCutUptoSaid : Prop := fnStableCutUptoRow.holds Try.pinned (OpenSpec.upto fnStableCutSpec)

/-- 'laws.FnExactCut', WHERE WHAT IT READS IS OF BULK AT MOST 1048576: true; the input reads as it did. -/
def fnExactCutUptoRow : OpenClaim := { program := "ythfkoplljinmmab", sum := "da6c2d66179acf8ba24ae985688cc0352c4c728a8b5e2eb0f92c20fab8adf448", func := "loop.example/g00660/laws.FnExactCut", spec := "fnExactCut", unfollowed := true, recurses := true, plainKeys := false, apart := false, narrowed := true }
def FnExactCutUptoSaid : Prop := fnExactCutUptoRow.holds Try.pinned (OpenSpec.upto fnExactCutSpec)

/-- 'laws.FnExactTaken', WHERE WHAT IT READS IS OF BULK AT MOST 1048576: true; the input reads as it did. -/
def fnExactTakenUptoRow : OpenClaim := { program := "ythfkoplljinmmab", sum := "da6c2d66179acf8ba24ae985688cc0352c4c728a8b5e2eb0f92c20fab8adf448", func := "loop.example/g00660/laws.FnExactTaken", spec := "fnExactTaken", unfollowed := true, recurses := true, plainKeys := false, apart := false, narrowed := true }
def FnExactTakenUptoSaid : Prop := fnExactTakenUptoRow.holds Try.pinned (OpenSpec.upto fnExactTakenSpec)

/-- 'laws.FnExactBill', WHERE WHAT IT READS IS OF BULK AT MOST 1048576: true; the input reads as it did. -/
def fnExactBillUptoRow : OpenClaim := { program := "ythfkoplljinmmab", sum := "da6c2d66179acf8ba24ae985688cc0352c4c728a8b5e2eb0f92c20fab8adf448", func := "loop.example/g00660/laws.FnExactBill", spec := "fnExactBill", unfollowed := true, recurses := true, plainKeys := false, apart := false, narrowed := true }
def FnExactBillUptoSaid : Prop := fnExactBillUptoRow.holds Try.pinned (OpenSpec.upto fnExactBillSpec)

end Rows
end Go.Proofs.Ythfkoplljinmmab
