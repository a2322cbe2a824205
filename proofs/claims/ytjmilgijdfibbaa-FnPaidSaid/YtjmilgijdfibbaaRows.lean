/-
  No cell of these rows narrows 'for every input' (looked for: loops, veiled, ifaces, maps, wideKeys, modest, calm, conditions, laid).
  DERIVED. THE GIVEN ROWS OF THIS SEAT. 12 by the template 'for every input the law returns true; each argument reads behind the call as it read before'; 0 by the template 'total and deterministic' (their statements: YtjmilgijdfibbaaTotals.lean).
  GIVEN WITH THE SEED: the statements are not yours to turn. If you find one false, say at which input.
  Laid BY PROGRAM, IN A SANDBOX (cutbox-rows.mjs): the forced cells as the released guide's own fill.sh prints them over the translation 00a1a075a4909814… (all of the seat's roots in one cut). By AI agents, Wed Nov 11 2026. No macro, syntax, notation, axiom, sorry.
-/
import Derived.Test.YtjmilgijdfibbaaChecked
import GoSem.Claim
import GoSem.ClaimJoined
import GoSem.ClaimMapViews
import Derived.JoinedTies
import Derived.KernelRfl
namespace Go.Proofs.Ytjmilgijdfibbaa
/- THE CELL 'sum', in the pinned program and in every row, IS THE sha256 OF THE DUMP (.gsa) THAT YtjmilgijdfibbaaProg.lean LOADS. Nothing in Lean hashes anything: it is a label: what it is worth is what the hold of that sum in a sandbox is worth. -/
noncomputable def Try.pinned : Pinned := { name := "ytjmilgijdfibbaa", sum := "00a1a075a4909814fd4347b7fdcdf1a7cbb65ebd18955b25f70447b36be0b230", checked := Try.checked }
namespace Rows
def none {H : Type} : Left H := { results := [], args := [] }

/-- 'laws.FnExactPaid': WHATEVER THE INPUT: true; the input reads as it did. -/
def fnExactPaidSpec : ChangeSpec := { name := "fnExactPaid", fn := fun _ => fun
  | [d1, d2] => { results := [.lit (.bool true)], args := [d1, d2] }
  | _ => none }
def fnExactPaidRow : OpenClaim := { program := "ytjmilgijdfibbaa", sum := "00a1a075a4909814fd4347b7fdcdf1a7cbb65ebd18955b25f70447b36be0b230", func := "loop.example/g00660/laws.FnExactPaid", spec := "fnExactPaid", apart := false }
def FnExactPaidSaid : Prop := fnExactPaidRow.holds Try.pinned (OpenSpec.ofChange fnExactPaidSpec)

/-- ITS FALSE NEIGHBOUR: 'it returns false'. Refute it at one input. -/
def fnExactPaidWrong : ChangeSpec := { name := "fnExactPaid", fn := fun _ => fun
  | [d1, d2] => { results := [.lit (.bool false)], args := [d1, d2] }
  | _ => none }
def FnExactPaidWrongFalsely : Prop := fnExactPaidRow.holds Try.pinned (OpenSpec.ofChange fnExactPaidWrong)

/-- 'laws.FnExactPricesOk': WHATEVER THE INPUT: true; the input reads as it did. -/
def fnExactPricesOkSpec : ChangeSpec := { name := "fnExactPricesOk", fn := fun _ => fun
  | [d] => { results := [.lit (.bool true)], args := [d] }
  | _ => none }
def fnExactPricesOkRow : OpenClaim := { program := "ytjmilgijdfibbaa", sum := "00a1a075a4909814fd4347b7fdcdf1a7cbb65ebd18955b25f70447b36be0b230", func := "loop.example/g00660/laws.FnExactPricesOk", spec := "fnExactPricesOk", unfollowed := true, recurses := true, apart := false }
def FnExactPricesOkSaid : Prop := fnExactPricesOkRow.holds Try.pinned (OpenSpec.ofChange fnExactPricesOkSpec)

/-- ITS FALSE NEIGHBOUR: 'it returns false'. Refute it at one input. -/
def fnExactPricesOkWrong : ChangeSpec := { name := "fnExactPricesOk", fn := fun _ => fun
  | [d] => { results := [.lit (.bool false)], args := [d] }
  | _ => none }
def FnExactPricesOkWrongFalsely : Prop := fnExactPricesOkRow.holds Try.pinned (OpenSpec.ofChange fnExactPricesOkWrong)

/-- 'laws.FnExactOffersOk': WHATEVER THE INPUT: true; the input reads as it did. -/
def fnExactOffersOkSpec : ChangeSpec := { name := "fnExactOffersOk", fn := fun _ => fun
  | [d] => { results := [.lit (.bool true)], args := [d] }
  | _ => none }
def fnExactOffersOkRow : OpenClaim := { program := "ytjmilgijdfibbaa", sum := "00a1a075a4909814fd4347b7fdcdf1a7cbb65ebd18955b25f70447b36be0b230", func := "loop.example/g00660/laws.FnExactOffersOk", spec := "fnExactOffersOk", unfollowed := true, recurses := true, apart := false }
def FnExactOffersOkSaid : Prop := fnExactOffersOkRow.holds Try.pinned (OpenSpec.ofChange fnExactOffersOkSpec)

/-- ITS FALSE NEIGHBOUR: 'it returns false'. Refute it at one input. -/
def fnExactOffersOkWrong : ChangeSpec := { name := "fnExactOffersOk", fn := fun _ => fun
  | [d] => { results := [.lit (.bool false)], args := [d] }
  | _ => none }
def FnExactOffersOkWrongFalsely : Prop := fnExactOffersOkRow.holds Try.pinned (OpenSpec.ofChange fnExactOffersOkWrong)

/-- 'laws.FnExactPriceOf': WHATEVER THE INPUT: true; the input reads as it did. -/
def fnExactPriceOfSpec : ChangeSpec := { name := "fnExactPriceOf", fn := fun _ => fun
  | [d1, d2] => { results := [.lit (.bool true)], args := [d1, d2] }
  | _ => none }
def fnExactPriceOfRow : OpenClaim := { program := "ytjmilgijdfibbaa", sum := "00a1a075a4909814fd4347b7fdcdf1a7cbb65ebd18955b25f70447b36be0b230", func := "loop.example/g00660/laws.FnExactPriceOf", spec := "fnExactPriceOf", unfollowed := true, recurses := true, apart := false }
def FnExactPriceOfSaid : Prop := fnExactPriceOfRow.holds Try.pinned (OpenSpec.ofChange fnExactPriceOfSpec)

/-- ITS FALSE NEIGHBOUR: 'it returns false'. Refute it at one input. -/
def fnExactPriceOfWrong : ChangeSpec := { name := "fnExactPriceOf", fn := fun _ => fun
  | [d1, d2] => { results := [.lit (.bool false)], args := [d1, d2] }
  | _ => none }
def FnExactPriceOfWrongFalsely : Prop := fnExactPriceOfRow.holds Try.pinned (OpenSpec.ofChange fnExactPriceOfWrong)

/-- 'laws.FnTogether': WHATEVER THE INPUT: true; the input reads as it did. -/
def fnTogetherSpec : ChangeSpec := { name := "fnTogether", fn := fun _ => fun
  | [d] => { results := [.lit (.bool true)], args := [d] }
  | _ => none }
def fnTogetherRow : OpenClaim := { program := "ytjmilgijdfibbaa", sum := "00a1a075a4909814fd4347b7fdcdf1a7cbb65ebd18955b25f70447b36be0b230", func := "loop.example/g00660/laws.FnTogether", spec := "fnTogether", apart := false }
def FnTogetherSaid : Prop := fnTogetherRow.holds Try.pinned (OpenSpec.ofChange fnTogetherSpec)

/-- ITS FALSE NEIGHBOUR: 'it returns false'. Refute it at one input. -/
def fnTogetherWrong : ChangeSpec := { name := "fnTogether", fn := fun _ => fun
  | [d] => { results := [.lit (.bool false)], args := [d] }
  | _ => none }
def FnTogetherWrongFalsely : Prop := fnTogetherRow.holds Try.pinned (OpenSpec.ofChange fnTogetherWrong)

/-- 'laws.FnPaid': WHATEVER THE INPUT: true; the input reads as it did. -/
def fnPaidSpec : ChangeSpec := { name := "fnPaid", fn := fun _ => fun
  | [d] => { results := [.lit (.bool true)], args := [d] }
  | _ => none }
def fnPaidRow : OpenClaim := { program := "ytjmilgijdfibbaa", sum := "00a1a075a4909814fd4347b7fdcdf1a7cbb65ebd18955b25f70447b36be0b230", func := "loop.example/g00660/laws.FnPaid", spec := "fnPaid", unfollowed := true, recurses := true, apart := false }
def FnPaidSaid : Prop := fnPaidRow.holds Try.pinned (OpenSpec.ofChange fnPaidSpec)

/-- ITS FALSE NEIGHBOUR: 'it returns false'. Refute it at one input. -/
def fnPaidWrong : ChangeSpec := { name := "fnPaid", fn := fun _ => fun
  | [d] => { results := [.lit (.bool false)], args := [d] }
  | _ => none }
def FnPaidWrongFalsely : Prop := fnPaidRow.holds Try.pinned (OpenSpec.ofChange fnPaidWrong)

/-- 'laws.FnExactAcksNew': WHATEVER THE INPUT: true; the input reads as it did. -/
def fnExactAcksNewSpec : ChangeSpec := { name := "fnExactAcksNew", fn := fun _ => fun
  | [] => { results := [.lit (.bool true)], args := [] }
  | _ => none }
def fnExactAcksNewRow : OpenClaim := { program := "ytjmilgijdfibbaa", sum := "00a1a075a4909814fd4347b7fdcdf1a7cbb65ebd18955b25f70447b36be0b230", func := "loop.example/g00660/laws.FnExactAcksNew", spec := "fnExactAcksNew", apart := false }
def FnExactAcksNewSaid : Prop := fnExactAcksNewRow.holds Try.pinned (OpenSpec.ofChange fnExactAcksNewSpec)

/-- ITS FALSE NEIGHBOUR: 'it returns false'. Refute it at one input. -/
def fnExactAcksNewWrong : ChangeSpec := { name := "fnExactAcksNew", fn := fun _ => fun
  | [] => { results := [.lit (.bool false)], args := [] }
  | _ => none }
def FnExactAcksNewWrongFalsely : Prop := fnExactAcksNewRow.holds Try.pinned (OpenSpec.ofChange fnExactAcksNewWrong)

/-- 'laws.FnExactAcksOk': WHATEVER THE INPUT: true; the input reads as it did. -/
def fnExactAcksOkSpec : ChangeSpec := { name := "fnExactAcksOk", fn := fun _ => fun
  | [d] => { results := [.lit (.bool true)], args := [d] }
  | _ => none }
def fnExactAcksOkRow : OpenClaim := { program := "ytjmilgijdfibbaa", sum := "00a1a075a4909814fd4347b7fdcdf1a7cbb65ebd18955b25f70447b36be0b230", func := "loop.example/g00660/laws.FnExactAcksOk", spec := "fnExactAcksOk", apart := false }
def FnExactAcksOkSaid : Prop := fnExactAcksOkRow.holds Try.pinned (OpenSpec.ofChange fnExactAcksOkSpec)

/-- ITS FALSE NEIGHBOUR: 'it returns false'. Refute it at one input. -/
def fnExactAcksOkWrong : ChangeSpec := { name := "fnExactAcksOk", fn := fun _ => fun
  | [d] => { results := [.lit (.bool false)], args := [d] }
  | _ => none }
def FnExactAcksOkWrongFalsely : Prop := fnExactAcksOkRow.holds Try.pinned (OpenSpec.ofChange fnExactAcksOkWrong)

/-- 'laws.FnExactHeard': WHATEVER THE INPUT: true; the input reads as it did. -/
def fnExactHeardSpec : ChangeSpec := { name := "fnExactHeard", fn := fun _ => fun
  | [d1, d2, d3] => { results := [.lit (.bool true)], args := [d1, d2, d3] }
  | _ => none }
def fnExactHeardRow : OpenClaim := { program := "ytjmilgijdfibbaa", sum := "00a1a075a4909814fd4347b7fdcdf1a7cbb65ebd18955b25f70447b36be0b230", func := "loop.example/g00660/laws.FnExactHeard", spec := "fnExactHeard", apart := false }
def FnExactHeardSaid : Prop := fnExactHeardRow.holds Try.pinned (OpenSpec.ofChange fnExactHeardSpec)

/-- ITS FALSE NEIGHBOUR: 'it returns false'. Refute it at one input. -/
def fnExactHeardWrong : ChangeSpec := { name := "fnExactHeard", fn := fun _ => fun
  | [d1, d2, d3] => { results := [.lit (.bool false)], args := [d1, d2, d3] }
  | _ => none }
def FnExactHeardWrongFalsely : Prop := fnExactHeardRow.holds Try.pinned (OpenSpec.ofChange fnExactHeardWrong)

/-- 'laws.FnExactStable': WHATEVER THE INPUT: true; the input reads as it did. -/
def fnExactStableSpec : ChangeSpec := { name := "fnExactStable", fn := fun _ => fun
  | [d] => { results := [.lit (.bool true)], args := [d] }
  | _ => none }
def fnExactStableRow : OpenClaim := { program := "ytjmilgijdfibbaa", sum := "00a1a075a4909814fd4347b7fdcdf1a7cbb65ebd18955b25f70447b36be0b230", func := "loop.example/g00660/laws.FnExactStable", spec := "fnExactStable", apart := false }
def FnExactStableSaid : Prop := fnExactStableRow.holds Try.pinned (OpenSpec.ofChange fnExactStableSpec)

/-- ITS FALSE NEIGHBOUR: 'it returns false'. Refute it at one input. -/
def fnExactStableWrong : ChangeSpec := { name := "fnExactStable", fn := fun _ => fun
  | [d] => { results := [.lit (.bool false)], args := [d] }
  | _ => none }
def FnExactStableWrongFalsely : Prop := fnExactStableRow.holds Try.pinned (OpenSpec.ofChange fnExactStableWrong)

/-- 'laws.FnHeard': WHATEVER THE INPUT: true; the input reads as it did. -/
def fnHeardSpec : ChangeSpec := { name := "fnHeard", fn := fun _ => fun
  | [d] => { results := [.lit (.bool true)], args := [d] }
  | _ => none }
def fnHeardRow : OpenClaim := { program := "ytjmilgijdfibbaa", sum := "00a1a075a4909814fd4347b7fdcdf1a7cbb65ebd18955b25f70447b36be0b230", func := "loop.example/g00660/laws.FnHeard", spec := "fnHeard", apart := false }
def FnHeardSaid : Prop := fnHeardRow.holds Try.pinned (OpenSpec.ofChange fnHeardSpec)

/-- ITS FALSE NEIGHBOUR: 'it returns false'. Refute it at one input. -/
def fnHeardWrong : ChangeSpec := { name := "fnHeard", fn := fun _ => fun
  | [d] => { results := [.lit (.bool false)], args := [d] }
  | _ => none }
def FnHeardWrongFalsely : Prop := fnHeardRow.holds Try.pinned (OpenSpec.ofChange fnHeardWrong)

/-- 'laws.FnStable': WHATEVER THE INPUT: true; the input reads as it did. -/
def fnStableSpec : ChangeSpec := { name := "fnStable", fn := fun _ => fun
  | [d] => { results := [.lit (.bool true)], args := [d] }
  | _ => none }
def fnStableRow : OpenClaim := { program := "ytjmilgijdfibbaa", sum := "00a1a075a4909814fd4347b7fdcdf1a7cbb65ebd18955b25f70447b36be0b230", func := "loop.example/g00660/laws.FnStable", spec := "fnStable", apart := false }
def FnStableSaid : Prop := fnStableRow.holds Try.pinned (OpenSpec.ofChange fnStableSpec)

/-- ITS FALSE NEIGHBOUR: 'it returns false'. Refute it at one input. -/
def fnStableWrong : ChangeSpec := { name := "fnStable", fn := fun _ => fun
  | [d] => { results := [.lit (.bool false)], args := [d] }
  | _ => none }
def FnStableWrongFalsely : Prop := fnStableRow.holds Try.pinned (OpenSpec.ofChange fnStableWrong)

/- THE SECOND FORM. 'bulk': how many values and letters a reading holds, each counted each time it is reached (what is shared counts as often as it is met; a slice's spare places count too). A statement '..UptoSaid' is the law's where the arguments, and the package variables that the reading takes, are together of bulk at most 1048576: NARROWER than '..Said'. Prove '..Said' where nothing that the law and all that it calls make is longer than what came in: it says more and counts as full. Else prove '..UptoSaid'. A law counts once. -/
mutual
def uptoBulk {H : Type} : DataW H → Nat
  | .lit (.string bytes) => bytes.length + 1
  | .lit _ => 1
  | .nil => 1
  | .ptr d => uptoBulk d + 1
  | .slice elems spare => uptoBulkAll elems + uptoBulkAll spare + 1
  | .agg parts => uptoBulkAll parts + 1
  | .iface _ d => uptoBulk d + 1
  | .map entries => uptoBulkEntries entries + 1
  | .held _ => 1
def uptoBulkAll {H : Type} : List (DataW H) → Nat
  | [] => 0
  | d :: r => uptoBulk d + uptoBulkAll r
def uptoBulkEntries {H : Type} : List (Lit × DataW H) → Nat
  | [] => 0
  | x :: r => uptoBulkEntry x + uptoBulkEntries r
def uptoBulkEntry {H : Type} : Lit × DataW H → Nat
  | (.string bytes, d) => bytes.length + uptoBulk d + 1
  | (_, d) => uptoBulk d + 1
 end
def uptoSmall : (H : Type) → List (DataW H) → Bool := fun _ ds => decide (uptoBulkAll ds ≤ 1048576)
def OpenSpec.upto (s : _root_.Go.ChangeSpec) : _root_.Go.OpenSpec := { _root_.Go.OpenSpec.ofChange s with cond := some uptoSmall }

/-- 'laws.FnExactPaid', WHERE WHAT IT READS IS OF BULK AT MOST 1048576: true; the input reads as it did. -/
def fnExactPaidUptoRow : OpenClaim := { program := "ytjmilgijdfibbaa", sum := "00a1a075a4909814fd4347b7fdcdf1a7cbb65ebd18955b25f70447b36be0b230", func := "loop.example/g00660/laws.FnExactPaid", spec := "fnExactPaid", apart := false, narrowed := true }
def FnExactPaidUptoSaid : Prop := fnExactPaidUptoRow.holds Try.pinned (OpenSpec.upto fnExactPaidSpec)

/-- 'laws.FnExactPricesOk', WHERE WHAT IT READS IS OF BULK AT MOST 1048576: true; the input reads as it did. -/
def fnExactPricesOkUptoRow : OpenClaim := { program := "ytjmilgijdfibbaa", sum := "00a1a075a4909814fd4347b7fdcdf1a7cbb65ebd18955b25f70447b36be0b230", func := "loop.example/g00660/laws.FnExactPricesOk", spec := "fnExactPricesOk", unfollowed := true, recurses := true, apart := false, narrowed := true }
def FnExactPricesOkUptoSaid : Prop := fnExactPricesOkUptoRow.holds Try.pinned (OpenSpec.upto fnExactPricesOkSpec)

/-- 'laws.FnExactOffersOk', WHERE WHAT IT READS IS OF BULK AT MOST 1048576: true; the input reads as it did. -/
def fnExactOffersOkUptoRow : OpenClaim := { program := "ytjmilgijdfibbaa", sum := "00a1a075a4909814fd4347b7fdcdf1a7cbb65ebd18955b25f70447b36be0b230", func := "loop.example/g00660/laws.FnExactOffersOk", spec := "fnExactOffersOk", unfollowed := true, recurses := true, apart := false, narrowed := true }
def FnExactOffersOkUptoSaid : Prop := fnExactOffersOkUptoRow.holds Try.pinned (OpenSpec.upto fnExactOffersOkSpec)

/-- 'laws.FnExactPriceOf', WHERE WHAT IT READS IS OF BULK AT MOST 1048576: true; the input reads as it did. -/
def fnExactPriceOfUptoRow : OpenClaim := { program := "ytjmilgijdfibbaa", sum := "00a1a075a4909814fd4347b7fdcdf1a7cbb65ebd18955b25f70447b36be0b230", func := "loop.example/g00660/laws.FnExactPriceOf", spec := "fnExactPriceOf", unfollowed := true, recurses := true, apart := false, narrowed := true }
def FnExactPriceOfUptoSaid : Prop := fnExactPriceOfUptoRow.holds Try.pinned (OpenSpec.upto fnExactPriceOfSpec)

/-- 'laws.FnTogether', WHERE WHAT IT READS IS OF BULK AT MOST 1048576: true; the input reads as it did. -/
def fnTogetherUptoRow : OpenClaim := { program := "ytjmilgijdfibbaa", sum := "00a1a075a4909814fd4347b7fdcdf1a7cbb65ebd18955b25f70447b36be0b230", func := "loop.example/g00660/laws.FnTogether", spec := "fnTogether", apart := false, narrowed := true }
def FnTogetherUptoSaid : Prop := fnTogetherUptoRow.holds Try.pinned (OpenSpec.upto fnTogetherSpec)

/-- 'laws.FnPaid', WHERE WHAT IT READS IS OF BULK AT MOST 1048576: true; the input reads as it did. -/
def fnPaidUptoRow : OpenClaim := { program := "ytjmilgijdfibbaa", sum := "00a1a075a4909814fd4347b7fdcdf1a7cbb65ebd18955b25f70447b36be0b230", func := "loop.example/g00660/laws.FnPaid", spec := "fnPaid", unfollowed := true, recurses := true, apart := false, narrowed := true }
def FnPaidUptoSaid : Prop := fnPaidUptoRow.holds Try.pinned (OpenSpec.upto fnPaidSpec)

/-- 'laws.FnExactAcksNew', WHERE WHAT IT READS IS OF BULK AT MOST 1048576: true; the input reads as it did. -/
def fnExactAcksNewUptoRow : OpenClaim := { program := "ytjmilgijdfibbaa", sum := "00a1a075a4909814fd4347b7fdcdf1a7cbb65ebd18955b25f70447b36be0b230", func := "loop.example/g00660/laws.FnExactAcksNew", spec := "fnExactAcksNew", apart := false, narrowed := true }
def FnExactAcksNewUptoSaid : Prop := fnExactAcksNewUptoRow.holds Try.pinned (OpenSpec.upto fnExactAcksNewSpec)

/-- 'laws.FnExactAcksOk', WHERE WHAT IT READS IS OF BULK AT MOST 1048576: true; the input reads as it did. -/
def fnExactAcksOkUptoRow : OpenClaim := { program := "ytjmilgijdfibbaa", sum := "00a1a075a4909814fd4347b7fdcdf1a7cbb65ebd18955b25f70447b36be0b230", func := "loop.example/g00660/laws.FnExactAcksOk", spec := "fnExactAcksOk", apart := false, narrowed := true }
def FnExactAcksOkUptoSaid : Prop := fnExactAcksOkUptoRow.holds Try.pinned (OpenSpec.upto fnExactAcksOkSpec)

/-- 'laws.FnExactHeard', WHERE WHAT IT READS IS OF BULK AT MOST 1048576: true; the input reads as it did. -/
def fnExactHeardUptoRow : OpenClaim := { program := "ytjmilgijdfibbaa", sum := "00a1a075a4909814fd4347b7fdcdf1a7cbb65ebd18955b25f70447b36be0b230", func := "loop.example/g00660/laws.FnExactHeard", spec := "fnExactHeard", apart := false, narrowed := true }
def FnExactHeardUptoSaid : Prop := fnExactHeardUptoRow.holds Try.pinned (OpenSpec.upto fnExactHeardSpec)

/-- 'laws.FnExactStable', WHERE WHAT IT READS IS OF BULK AT MOST 1048576: true; the input reads as it did. -/
def fnExactStableUptoRow : OpenClaim := { program := "ytjmilgijdfibbaa", sum := "00a1a075a4909814fd4347b7fdcdf1a7cbb65ebd18955b25f70447b36be0b230", func := "loop.example/g00660/laws.FnExactStable", spec := "fnExactStable", apart := false, narrowed := true }
def FnExactStableUptoSaid : Prop := fnExactStableUptoRow.holds Try.pinned (OpenSpec.upto fnExactStableSpec)

/-- 'laws.FnHeard', WHERE WHAT IT READS IS OF BULK AT MOST 1048576: true; the input reads as it did. -/
def fnHeardUptoRow : OpenClaim := { program := "ytjmilgijdfibbaa", sum := "00a1a075a4909814fd4347b7fdcdf1a7cbb65ebd18955b25f70447b36be0b230", func := "loop.example/g00660/laws.FnHeard", spec := "fnHeard", apart := false, narrowed := true }
def FnHeardUptoSaid : Prop := fnHeardUptoRow.holds Try.pinned (OpenSpec.upto fnHeardSpec)

/-- 'laws.FnStable', WHERE WHAT IT READS IS OF BULK AT MOST 1048576: true; the input reads as it did. -/
def fnStableUptoRow : OpenClaim := { program := "ytjmilgijdfibbaa", sum := "00a1a075a4909814fd4347b7fdcdf1a7cbb65ebd18955b25f70447b36be0b230", func := "loop.example/g00660/laws.FnStable", spec := "fnStable", apart := false, narrowed := true }
def FnStableUptoSaid : Prop := fnStableUptoRow.holds Try.pinned (OpenSpec.upto fnStableSpec)

end Rows
end Go.Proofs.Ytjmilgijdfibbaa
