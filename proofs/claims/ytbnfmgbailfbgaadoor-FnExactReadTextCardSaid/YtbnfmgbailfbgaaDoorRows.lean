/-
  NARROWER THAN 'FOR EVERY INPUT', by the rows' own cells (each row's printed sentence says how): FnVars: ifaces, laid · FnTexts: ifaces, laid · FnExactReadVar: ifaces, laid · FnExactReadText: ifaces, laid.
  DERIVED. THE GIVEN ROWS OF THIS SEAT. 4 by the template 'for every input the law returns true; each argument reads behind the call as it read before'; 0 by the template 'total and deterministic' (their statements: YtbnfmgbailfbgaaDoorTotals.lean).
  GIVEN WITH THE SEED: the statements are not yours to turn. If you find one false, say at which input.
  Laid BY PROGRAM, IN A SANDBOX (cutbox-rows.mjs): the forced cells as the released guide's own fill.sh prints them over the translation 0f2ea2281b27a894… (all of the seat's roots in one cut). By AI agents, Wed Nov 11 2026. No macro, syntax, notation, axiom, sorry.
-/
import Derived.Test.YtbnfmgbailfbgaaDoorChecked
import GoSem.Claim
import GoSem.ClaimJoined
import GoSem.ClaimMapViews
import Derived.JoinedTies
import Derived.KernelRfl
namespace Go.Proofs.YtbnfmgbailfbgaaDoor
/- THE CELL 'sum', in the pinned program and in every row, IS THE sha256 OF THE DUMP (.gsa) THAT YtbnfmgbailfbgaaDoorProg.lean LOADS. Nothing in Lean hashes anything: it is a label: what it is worth is what the hold of that sum in a sandbox is worth. -/
noncomputable def Tryd.pinned : Pinned := { name := "ytbnfmgbailfbgaadoor", sum := "0f2ea2281b27a8941454f388c63ca166c8876e0231167b56aca9f1da55150747", checked := Tryd.checked }
namespace Rows
def none {H : Type} : Left H := { results := [], args := [] }

/- WHAT THE LISTED PACKAGE-LEVEL VARIABLES READ AS WHEN THE CALL BEGINS. Each datum BY PROGRAM (the guide's laid-datum.mjs) off the statement by which the dump's own 'gosem.cut.vars' lays the variable. In a bare row this is a premise. The card (YtbnfmgbailfbgaaDoorCards.lean) ties it to the program's text. -/
def laid_loop_example_g00660_impl_errNotEncoded {H : Type} : DataW H := .iface "*errors.errorString" (.ptr (.agg [.lit (.string [110, 111, 116, 32, 97, 110, 32, 101, 110, 99, 111, 100, 105, 110, 103])]))

/-- 'laws.FnVars': WHATEVER THE INPUT: true; the input reads as it did. -/
def fnVarsSpec : ChangeSpec := { name := "fnVars", vars := ["loop.example/g00660/impl.errNotEncoded"], fn := fun _ => fun
  | [d, g1] => { results := [.lit (.bool true)], args := [d], vars := [g1] }
  | _ => none }
def fnVarsRow : OpenClaim := { program := "ytbnfmgbailfbgaadoor", sum := "0f2ea2281b27a8941454f388c63ca166c8876e0231167b56aca9f1da55150747", func := "loop.example/g00660/laws.FnVars", spec := "fnVars", unfollowed := true, recurses := true, named := ["loop.example/g00660/impl.errNotEncoded"], ifaces := true, apart := false, laid := [("loop.example/g00660/impl.errNotEncoded", laid_loop_example_g00660_impl_errNotEncoded)] }
def FnVarsSaid : Prop := fnVarsRow.holds Tryd.pinned (OpenSpec.ofChange fnVarsSpec)

/-- ITS FALSE NEIGHBOUR: 'it returns false'. Refute it at one input. -/
def fnVarsWrong : ChangeSpec := { name := "fnVars", vars := ["loop.example/g00660/impl.errNotEncoded"], fn := fun _ => fun
  | [d, g1] => { results := [.lit (.bool false)], args := [d], vars := [g1] }
  | _ => none }
def FnVarsWrongFalsely : Prop := fnVarsRow.holds Tryd.pinned (OpenSpec.ofChange fnVarsWrong)

/-- 'laws.FnTexts': WHATEVER THE INPUT: true; the input reads as it did. -/
def fnTextsSpec : ChangeSpec := { name := "fnTexts", vars := ["loop.example/g00660/impl.errNotEncoded"], fn := fun _ => fun
  | [d, g1] => { results := [.lit (.bool true)], args := [d], vars := [g1] }
  | _ => none }
def fnTextsRow : OpenClaim := { program := "ytbnfmgbailfbgaadoor", sum := "0f2ea2281b27a8941454f388c63ca166c8876e0231167b56aca9f1da55150747", func := "loop.example/g00660/laws.FnTexts", spec := "fnTexts", unfollowed := true, recurses := true, named := ["loop.example/g00660/impl.errNotEncoded"], ifaces := true, apart := false, laid := [("loop.example/g00660/impl.errNotEncoded", laid_loop_example_g00660_impl_errNotEncoded)] }
def FnTextsSaid : Prop := fnTextsRow.holds Tryd.pinned (OpenSpec.ofChange fnTextsSpec)

/-- ITS FALSE NEIGHBOUR: 'it returns false'. Refute it at one input. -/
def fnTextsWrong : ChangeSpec := { name := "fnTexts", vars := ["loop.example/g00660/impl.errNotEncoded"], fn := fun _ => fun
  | [d, g1] => { results := [.lit (.bool false)], args := [d], vars := [g1] }
  | _ => none }
def FnTextsWrongFalsely : Prop := fnTextsRow.holds Tryd.pinned (OpenSpec.ofChange fnTextsWrong)

/-- 'laws.FnExactReadVar': WHATEVER THE INPUT: true; the input reads as it did. -/
def fnExactReadVarSpec : ChangeSpec := { name := "fnExactReadVar", vars := ["loop.example/g00660/impl.errNotEncoded"], fn := fun _ => fun
  | [d, g1] => { results := [.lit (.bool true)], args := [d], vars := [g1] }
  | _ => none }
def fnExactReadVarRow : OpenClaim := { program := "ytbnfmgbailfbgaadoor", sum := "0f2ea2281b27a8941454f388c63ca166c8876e0231167b56aca9f1da55150747", func := "loop.example/g00660/laws.FnExactReadVar", spec := "fnExactReadVar", unfollowed := true, recurses := true, named := ["loop.example/g00660/impl.errNotEncoded"], ifaces := true, apart := false, laid := [("loop.example/g00660/impl.errNotEncoded", laid_loop_example_g00660_impl_errNotEncoded)] }
def FnExactReadVarSaid : Prop := fnExactReadVarRow.holds Tryd.pinned (OpenSpec.ofChange fnExactReadVarSpec)

/-- ITS FALSE NEIGHBOUR: 'it returns false'. Refute it at one input. -/
def fnExactReadVarWrong : ChangeSpec := { name := "fnExactReadVar", vars := ["loop.example/g00660/impl.errNotEncoded"], fn := fun _ => fun
  | [d, g1] => { results := [.lit (.bool false)], args := [d], vars := [g1] }
  | _ => none }
def FnExactReadVarWrongFalsely : Prop := fnExactReadVarRow.holds Tryd.pinned (OpenSpec.ofChange fnExactReadVarWrong)

/-- 'laws.FnExactReadText': WHATEVER THE INPUT: true; the input reads as it did. -/
def fnExactReadTextSpec : ChangeSpec := { name := "fnExactReadText", vars := ["loop.example/g00660/impl.errNotEncoded"], fn := fun _ => fun
  | [d, g1] => { results := [.lit (.bool true)], args := [d], vars := [g1] }
  | _ => none }
def fnExactReadTextRow : OpenClaim := { program := "ytbnfmgbailfbgaadoor", sum := "0f2ea2281b27a8941454f388c63ca166c8876e0231167b56aca9f1da55150747", func := "loop.example/g00660/laws.FnExactReadText", spec := "fnExactReadText", unfollowed := true, recurses := true, named := ["loop.example/g00660/impl.errNotEncoded"], ifaces := true, apart := false, laid := [("loop.example/g00660/impl.errNotEncoded", laid_loop_example_g00660_impl_errNotEncoded)] }
def FnExactReadTextSaid : Prop := fnExactReadTextRow.holds Tryd.pinned (OpenSpec.ofChange fnExactReadTextSpec)

/-- ITS FALSE NEIGHBOUR: 'it returns false'. Refute it at one input. -/
def fnExactReadTextWrong : ChangeSpec := { name := "fnExactReadText", vars := ["loop.example/g00660/impl.errNotEncoded"], fn := fun _ => fun
  | [d, g1] => { results := [.lit (.bool false)], args := [d], vars := [g1] }
  | _ => none }
def FnExactReadTextWrongFalsely : Prop := fnExactReadTextRow.holds Tryd.pinned (OpenSpec.ofChange fnExactReadTextWrong)

/- THE SECOND FORM. 'bulk': how many values and letters a reading holds, each counted each time it is reached (what is shared counts as often as it is met; a slice's spare places count too). A statement '..UptoSaid' is the law's where the arguments, and the package variables that the reading takes, are together of bulk at most 1048576: NARROWER than '..Said'. Prove '..Said' where nothing that the law and all that it calls make is longer than what came in: it says more and counts as full. Else prove '..UptoSaid'. A law counts once. -/
mutual
def uptoBulk {H : Type} : DataW H → Nat
  | .lit (.string bytes) => bytes.length + 1
  | .lit _ => 1
  | .nil => 1
  | .ptr d => uptoBulk d + 1
  | .slice elems spare => uptoBulkAll elems + uptoBulkAll spare + 1
  | .agg parts => uptoBulkAll parts + 1
  | .iface _ d => uptoBulk d + 1
  | .map entries => uptoBulkEntries entries + 1
  | .held _ => 1
def uptoBulkAll {H : Type} : List (DataW H) → Nat
  | [] => 0
  | d :: r => uptoBulk d + uptoBulkAll r
def uptoBulkEntries {H : Type} : List (Lit × DataW H) → Nat
  | [] => 0
  | x :: r => uptoBulkEntry x + uptoBulkEntries r
def uptoBulkEntry {H : Type} : Lit × DataW H → Nat
  | (.string bytes, d) => bytes.length + uptoBulk d + 1
  | (_, d) => uptoBulk d + 1
 end
def uptoSmall : (H : Type) → List (DataW H) → Bool := fun _ ds => decide (uptoBulkAll ds ≤ 1048576)
def OpenSpec.upto (s : _root_.Go.ChangeSpec) : _root_.Go.OpenSpec := { _root_.Go.OpenSpec.ofChange s with cond := some uptoSmall }

/-- 'laws.FnVars', WHERE WHAT IT READS IS OF BULK AT MOST 1048576: true; the input reads as it did. -/
def fnVarsUptoRow : OpenClaim := { program := "ytbnfmgbailfbgaadoor", sum := "0f2ea2281b27a8941454f388c63ca166c8876e0231167b56aca9f1da55150747", func := "loop.example/g00660/laws.FnVars", spec := "fnVars", unfollowed := true, recurses := true, named := ["loop.example/g00660/impl.errNotEncoded"], ifaces := true, apart := false, laid := [("loop.example/g00660/impl.errNotEncoded", laid_loop_example_g00660_impl_errNotEncoded)], narrowed := true }
def FnVarsUptoSaid : Prop := fnVarsUptoRow.holds Tryd.pinned (OpenSpec.upto fnVarsSpec)

/-- 'laws.FnTexts', WHERE WHAT IT READS IS OF BULK AT MOST 1048576: true; the input reads as it did. -/
def fnTextsUptoRow : OpenClaim := { program := "ytbnfmgbailfbgaadoor", sum := "0f2ea2281b27a8941454f388c63ca166c8876e0231167b56aca9f1da55150747", func := "loop.example/g00660/laws.FnTexts", spec := "fnTexts", unfollowed := true, recurses := true, named := ["loop.example/g00660/impl.errNotEncoded"], ifaces := true, apart := false, laid := [("loop.example/g00660/impl.errNotEncoded", laid_loop_example_g00660_impl_errNotEncoded)], narrowed := true }
def FnTextsUptoSaid : Prop := fnTextsUptoRow.holds Tryd.pinned (OpenSpec.upto fnTextsSpec)

/-- 'laws.FnExactReadVar', WHERE WHAT IT READS IS OF BULK AT MOST 1048576: true; the input reads as it did. -/
def fnExactReadVarUptoRow : OpenClaim := { program := "ytbnfmgbailfbgaadoor", sum := "0f2ea2281b27a8941454f388c63ca166c8876e0231167b56aca9f1da55150747", func := "loop.example/g00660/laws.FnExactReadVar", spec := "fnExactReadVar", unfollowed := true, recurses := true, named := ["loop.example/g00660/impl.errNotEncoded"], ifaces := true, apart := false, laid := [("loop.example/g00660/impl.errNotEncoded", laid_loop_example_g00660_impl_errNotEncoded)], narrowed := true }
def FnExactReadVarUptoSaid : Prop := fnExactReadVarUptoRow.holds Tryd.pinned (OpenSpec.upto fnExactReadVarSpec)

/-- 'laws.FnExactReadText', WHERE WHAT IT READS IS OF BULK AT MOST 1048576: true; the input reads as it did. -/
def fnExactReadTextUptoRow : OpenClaim := { program := "ytbnfmgbailfbgaadoor", sum := "0f2ea2281b27a8941454f388c63ca166c8876e0231167b56aca9f1da55150747", func := "loop.example/g00660/laws.FnExactReadText", spec := "fnExactReadText", unfollowed := true, recurses := true, named := ["loop.example/g00660/impl.errNotEncoded"], ifaces := true, apart := false, laid := [("loop.example/g00660/impl.errNotEncoded", laid_loop_example_g00660_impl_errNotEncoded)], narrowed := true }
def FnExactReadTextUptoSaid : Prop := fnExactReadTextUptoRow.holds Tryd.pinned (OpenSpec.upto fnExactReadTextSpec)

end Rows
end Go.Proofs.YtbnfmgbailfbgaaDoor
