/-
  No cell of these rows narrows 'for every input' (looked for: loops, veiled, ifaces, maps, wideKeys, modest, calm, conditions, laid).
  DERIVED. THE GIVEN ROWS OF THIS SEAT. 5 by the template 'for every input the law returns true; each argument reads behind the call as it read before'; 0 by the template 'total and deterministic' (their statements: YtcebolkooohjhaaTotals.lean).
  GIVEN WITH THE SEED: the statements are not yours to turn. If you find one false, say at which input.
  Laid BY PROGRAM, IN A SANDBOX (cutbox-rows.mjs): the forced cells as the released guide's own fill.sh prints them over the translation 4d6988d7ea0ae87b… (all of the seat's roots in one cut). By AI agents, Wed Nov 11 2026. No macro, syntax, notation, axiom, sorry.
-/
import Derived.Test.YtcebolkooohjhaaChecked
import GoSem.Claim
import GoSem.ClaimJoined
import GoSem.ClaimMapViews
import Derived.JoinedTies
import Derived.KernelRfl
namespace Go.Proofs.Ytcebolkooohjhaa
/- THE CELL 'sum', in the pinned program and in every row, IS THE sha256 OF THE DUMP (.gsa) THAT YtcebolkooohjhaaProg.lean LOADS. Nothing in Lean hashes anything: it is a label: what it is worth is what the hold of that sum in a sandbox is worth. -/
noncomputable def Try.pinned : Pinned := { name := "ytcebolkooohjhaa", sum := "4d6988d7ea0ae87ba3d80dff60ba039025d18a5cd876bf87139135ffb44e3b22", checked := Try.checked }
namespace Rows
def none {H : Type} : Left H := { results := [], args := [] }

/-- 'laws.FnExactPartOk': WHATEVER THE INPUT: true; the input reads as it did. -/
def fnExactPartOkSpec : ChangeSpec := { name := "fnExactPartOk", fn := fun _ => fun
  | [d] => { results := [.lit (.bool true)], args := [d] }
  | _ => none }
def fnExactPartOkRow : OpenClaim := { program := "ytcebolkooohjhaa", sum := "4d6988d7ea0ae87ba3d80dff60ba039025d18a5cd876bf87139135ffb44e3b22", func := "loop.example/g00660/laws.FnExactPartOk", spec := "fnExactPartOk", unfollowed := true, recurses := true, apart := false }
def FnExactPartOkSaid : Prop := fnExactPartOkRow.holds Try.pinned (OpenSpec.ofChange fnExactPartOkSpec)

/-- ITS FALSE NEIGHBOUR: 'it returns false'. Refute it at one input. -/
def fnExactPartOkWrong : ChangeSpec := { name := "fnExactPartOk", fn := fun _ => fun
  | [d] => { results := [.lit (.bool false)], args := [d] }
  | _ => none }
def FnExactPartOkWrongFalsely : Prop := fnExactPartOkRow.holds Try.pinned (OpenSpec.ofChange fnExactPartOkWrong)

/-- 'laws.FnExactNamed': WHATEVER THE INPUT: true; the input reads as it did. -/
def fnExactNamedSpec : ChangeSpec := { name := "fnExactNamed", fn := fun _ => fun
  | [d1, d2] => { results := [.lit (.bool true)], args := [d1, d2] }
  | _ => none }
def fnExactNamedRow : OpenClaim := { program := "ytcebolkooohjhaa", sum := "4d6988d7ea0ae87ba3d80dff60ba039025d18a5cd876bf87139135ffb44e3b22", func := "loop.example/g00660/laws.FnExactNamed", spec := "fnExactNamed", unfollowed := true, recurses := true, apart := false }
def FnExactNamedSaid : Prop := fnExactNamedRow.holds Try.pinned (OpenSpec.ofChange fnExactNamedSpec)

/-- ITS FALSE NEIGHBOUR: 'it returns false'. Refute it at one input. -/
def fnExactNamedWrong : ChangeSpec := { name := "fnExactNamed", fn := fun _ => fun
  | [d1, d2] => { results := [.lit (.bool false)], args := [d1, d2] }
  | _ => none }
def FnExactNamedWrongFalsely : Prop := fnExactNamedRow.holds Try.pinned (OpenSpec.ofChange fnExactNamedWrong)

/-- 'laws.FnExactHistory': WHATEVER THE INPUT: true; the input reads as it did. -/
def fnExactHistorySpec : ChangeSpec := { name := "fnExactHistory", fn := fun _ => fun
  | [d] => { results := [.lit (.bool true)], args := [d] }
  | _ => none }
def fnExactHistoryRow : OpenClaim := { program := "ytcebolkooohjhaa", sum := "4d6988d7ea0ae87ba3d80dff60ba039025d18a5cd876bf87139135ffb44e3b22", func := "loop.example/g00660/laws.FnExactHistory", spec := "fnExactHistory", unfollowed := true, recurses := true, apart := false }
def FnExactHistorySaid : Prop := fnExactHistoryRow.holds Try.pinned (OpenSpec.ofChange fnExactHistorySpec)

/-- ITS FALSE NEIGHBOUR: 'it returns false'. Refute it at one input. -/
def fnExactHistoryWrong : ChangeSpec := { name := "fnExactHistory", fn := fun _ => fun
  | [d] => { results := [.lit (.bool false)], args := [d] }
  | _ => none }
def FnExactHistoryWrongFalsely : Prop := fnExactHistoryRow.holds Try.pinned (OpenSpec.ofChange fnExactHistoryWrong)

/-- 'laws.FnExactPage': WHATEVER THE INPUT: true; the input reads as it did. -/
def fnExactPageSpec : ChangeSpec := { name := "fnExactPage", fn := fun _ => fun
  | [d1, d2, d3] => { results := [.lit (.bool true)], args := [d1, d2, d3] }
  | _ => none }
def fnExactPageRow : OpenClaim := { program := "ytcebolkooohjhaa", sum := "4d6988d7ea0ae87ba3d80dff60ba039025d18a5cd876bf87139135ffb44e3b22", func := "loop.example/g00660/laws.FnExactPage", spec := "fnExactPage", unfollowed := true, recurses := true, apart := false }
def FnExactPageSaid : Prop := fnExactPageRow.holds Try.pinned (OpenSpec.ofChange fnExactPageSpec)

/-- ITS FALSE NEIGHBOUR: 'it returns false'. Refute it at one input. -/
def fnExactPageWrong : ChangeSpec := { name := "fnExactPage", fn := fun _ => fun
  | [d1, d2, d3] => { results := [.lit (.bool false)], args := [d1, d2, d3] }
  | _ => none }
def FnExactPageWrongFalsely : Prop := fnExactPageRow.holds Try.pinned (OpenSpec.ofChange fnExactPageWrong)

/-- 'laws.FnExactToggled': WHATEVER THE INPUT: true; the input reads as it did. -/
def fnExactToggledSpec : ChangeSpec := { name := "fnExactToggled", fn := fun _ => fun
  | [d1, d2] => { results := [.lit (.bool true)], args := [d1, d2] }
  | _ => none }
def fnExactToggledRow : OpenClaim := { program := "ytcebolkooohjhaa", sum := "4d6988d7ea0ae87ba3d80dff60ba039025d18a5cd876bf87139135ffb44e3b22", func := "loop.example/g00660/laws.FnExactToggled", spec := "fnExactToggled", unfollowed := true, recurses := true, apart := false }
def FnExactToggledSaid : Prop := fnExactToggledRow.holds Try.pinned (OpenSpec.ofChange fnExactToggledSpec)

/-- ITS FALSE NEIGHBOUR: 'it returns false'. Refute it at one input. -/
def fnExactToggledWrong : ChangeSpec := { name := "fnExactToggled", fn := fun _ => fun
  | [d1, d2] => { results := [.lit (.bool false)], args := [d1, d2] }
  | _ => none }
def FnExactToggledWrongFalsely : Prop := fnExactToggledRow.holds Try.pinned (OpenSpec.ofChange fnExactToggledWrong)

/- THE SECOND FORM. 'bulk': how many values and letters a reading holds, each counted each time it is reached (what is shared counts as often as it is met; a slice's spare places count too). A statement '..UptoSaid' is the law's where the arguments, and the package variables that the reading takes, are together of bulk at most 1048576: NARROWER than '..Said'. Prove '..Said' where nothing that the law and all that it calls make is longer than what came in: it says more and counts as full. Else prove '..UptoSaid'. A law counts once. -/
mutual
def uptoBulk {H : Type} : DataW H → Nat
  | .lit (.string bytes) => bytes.length + 1
  | .lit _ => 1
  | .nil => 1
  | .ptr d => uptoBulk d + 1
  | .slice elems spare => uptoBulkAll elems + uptoBulkAll spare + 1
  | .agg parts => uptoBulkAll parts + 1
  | .iface _ d => uptoBulk d + 1
  | .map entries => uptoBulkEntries entries + 1
  | .held _ => 1
def uptoBulkAll {H : Type} : List (DataW H) → Nat
  | [] => 0
  | d :: r => uptoBulk d + uptoBulkAll r
def uptoBulkEntries {H : Type} : List (Lit × DataW H) → Nat
  | [] => 0
  | x :: r => uptoBulkEntry x + uptoBulkEntries r
def uptoBulkEntry {H : Type} : Lit × DataW H → Nat
  | (.string bytes, d) => bytes.length + uptoBulk d + 1
  | (_, d) => uptoBulk d + 1
 end
def uptoSmall : (H : Type) → List (DataW H) → Bool := fun _ ds => decide (uptoBulkAll ds ≤ 1048576)
def OpenSpec.upto (s : _root_.Go.ChangeSpec) : _root_.Go.OpenSpec := { _root_.Go.OpenSpec.ofChange s with cond := some uptoSmall }

/-- 'laws.FnExactPartOk', WHERE WHAT IT READS IS OF BULK AT MOST 1048576: true; the input reads as it did. -/
def fnExactPartOkUptoRow : OpenClaim := { program := "ytcebolkooohjhaa", sum := "4d6988d7ea0ae87ba3d80dff60ba039025d18a5cd876bf87139135ffb44e3b22", func := "loop.example/g00660/laws.FnExactPartOk", spec := "fnExactPartOk", unfollowed := true, recurses := true, apart := false, narrowed := true }
def FnExactPartOkUptoSaid : Prop := fnExactPartOkUptoRow.holds Try.pinned (OpenSpec.upto fnExactPartOkSpec)

/-- 'laws.FnExactNamed', WHERE WHAT IT READS IS OF BULK AT MOST 1048576: true; the input reads as it did. -/
def fnExactNamedUptoRow : OpenClaim := { program := "ytcebolkooohjhaa", sum := "4d6988d7ea0ae87ba3d80dff60ba039025d18a5cd876bf87139135ffb44e3b22", func := "loop.example/g00660/laws.FnExactNamed", spec := "fnExactNamed", unfollowed := true, recurses := true, apart := false, narrowed := true }
def FnExactNamedUptoSaid : Prop := fnExactNamedUptoRow.holds Try.pinned (OpenSpec.upto fnExactNamedSpec)

/-- 'laws.FnExactHistory', WHERE WHAT IT READS IS OF BULK AT MOST 1048576: true; the input reads as it did. -/
def fnExactHistoryUptoRow : OpenClaim := { program := "ytcebolkooohjhaa", sum := "4d6988d7ea0ae87ba3d80dff60ba039025d18a5cd876bf87139135ffb44e3b22", func := "loop.example/g00660/laws.FnExactHistory", spec := "fnExactHistory", unfollowed := true, recurses := true, apart := false, narrowed := true }
def FnExactHistoryUptoSaid : Prop := fnExactHistoryUptoRow.holds Try.pinned (OpenSpec.upto fnExactHistorySpec)

/-- 'laws.FnExactPage', WHERE WHAT IT READS IS OF BULK AT MOST 1048576: true; the input reads as it did. -/
def fnExactPageUptoRow : OpenClaim := { program := "ytcebolkooohjhaa", sum := "4d6988d7ea0ae87ba3d80dff60ba039025d18a5cd876bf87139135ffb44e3b22", func := "loop.example/g00660/laws.FnExactPage", spec := "fnExactPage", unfollowed := true, recurses := true, apart := false, narrowed := true }
def FnExactPageUptoSaid : Prop := fnExactPageUptoRow.holds Try.pinned (OpenSpec.upto fnExactPageSpec)

/-- 'laws.FnExactToggled', WHERE WHAT IT READS IS OF BULK AT MOST 1048576: true; the input reads as it did. -/
def fnExactToggledUptoRow : OpenClaim := { program := "ytcebolkooohjhaa", sum := "4d6988d7ea0ae87ba3d80dff60ba039025d18a5cd876bf87139135ffb44e3b22", func := "loop.example/g00660/laws.FnExactToggled", spec := "fnExactToggled", unfollowed := true, recurses := true, apart := false, narrowed := true }
def FnExactToggledUptoSaid : Prop := fnExactToggledUptoRow.holds Try.pinned (OpenSpec.upto fnExactToggledSpec)

end Rows
end Go.Proofs.Ytcebolkooohjhaa
