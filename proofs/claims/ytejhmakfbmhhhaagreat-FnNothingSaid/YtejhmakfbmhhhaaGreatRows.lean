/-
  No cell of these rows narrows 'for every input' (looked for: loops, veiled, ifaces, maps, wideKeys, modest, calm, conditions, laid).
  DERIVED. THE GIVEN ROWS OF THIS SEAT. 4 by the template 'for every input the law returns true; each argument reads behind the call as it read before'; 0 by the template 'total and deterministic' (their statements: YtejhmakfbmhhhaaGreatTotals.lean).
  GIVEN WITH THE SEED: the statements are not yours to turn. If you find one false, say at which input.
  Laid BY PROGRAM, IN A SANDBOX (cutbox-rows.mjs): the forced cells as the released guide's own fill.sh prints them over the translation ad30d81bbeffb3e0… (all of the seat's roots in one cut). By AI agents, Wed Nov 11 2026. No macro, syntax, notation, axiom, sorry.
-/
import Derived.Test.YtejhmakfbmhhhaaGreatChecked
import GoSem.Claim
import GoSem.ClaimJoined
import GoSem.ClaimMapViews
import Derived.JoinedTies
import Derived.KernelRfl
namespace Go.Proofs.YtejhmakfbmhhhaaGreat
/- THE CELL 'sum', in the pinned program and in every row, IS THE sha256 OF THE DUMP (.gsa) THAT YtejhmakfbmhhhaaGreatProg.lean LOADS. Nothing in Lean hashes anything: it is a label: what it is worth is what the hold of that sum in a sandbox is worth. -/
noncomputable def Tryz.pinned : Pinned := { name := "ytejhmakfbmhhhaagreat", sum := "ad30d81bbeffb3e0d8765602e35f5a5a54a43d257de994a267b4bd536e90d255", checked := Tryz.checked }
namespace Rows
def none {H : Type} : Left H := { results := [], args := [] }

/-- 'laws.FnTotal': WHATEVER THE INPUT: true; the input reads as it did. -/
def fnTotalSpec : ChangeSpec := { name := "fnTotal", fn := fun _ => fun
  | [d] => { results := [.lit (.bool true)], args := [d] }
  | _ => none }
def fnTotalRow : OpenClaim := { program := "ytejhmakfbmhhhaagreat", sum := "ad30d81bbeffb3e0d8765602e35f5a5a54a43d257de994a267b4bd536e90d255", func := "loop.example/g00660/laws.FnTotal", spec := "fnTotal", unfollowed := true, recurses := true, plainKeys := false, apart := false }
def FnTotalSaid : Prop := fnTotalRow.holds Tryz.pinned (OpenSpec.ofChange fnTotalSpec)

/-- ITS FALSE NEIGHBOUR: 'it returns false'. Refute it at one input. -/
def fnTotalWrong : ChangeSpec := { name := "fnTotal", fn := fun _ => fun
  | [d] => { results := [.lit (.bool false)], args := [d] }
  | _ => none }
def FnTotalWrongFalsely : Prop := fnTotalRow.holds Tryz.pinned (OpenSpec.ofChange fnTotalWrong)

/-- 'laws.FnAbsent': WHATEVER THE INPUT: true; the input reads as it did. -/
def fnAbsentSpec : ChangeSpec := { name := "fnAbsent", fn := fun _ => fun
  | [d] => { results := [.lit (.bool true)], args := [d] }
  | _ => none }
def fnAbsentRow : OpenClaim := { program := "ytejhmakfbmhhhaagreat", sum := "ad30d81bbeffb3e0d8765602e35f5a5a54a43d257de994a267b4bd536e90d255", func := "loop.example/g00660/laws.FnAbsent", spec := "fnAbsent", unfollowed := true, recurses := true, plainKeys := false, apart := false }
def FnAbsentSaid : Prop := fnAbsentRow.holds Tryz.pinned (OpenSpec.ofChange fnAbsentSpec)

/-- ITS FALSE NEIGHBOUR: 'it returns false'. Refute it at one input. -/
def fnAbsentWrong : ChangeSpec := { name := "fnAbsent", fn := fun _ => fun
  | [d] => { results := [.lit (.bool false)], args := [d] }
  | _ => none }
def FnAbsentWrongFalsely : Prop := fnAbsentRow.holds Tryz.pinned (OpenSpec.ofChange fnAbsentWrong)

/-- 'laws.FnViews': WHATEVER THE INPUT: true; the input reads as it did. -/
def fnViewsSpec : ChangeSpec := { name := "fnViews", fn := fun _ => fun
  | [d] => { results := [.lit (.bool true)], args := [d] }
  | _ => none }
def fnViewsRow : OpenClaim := { program := "ytejhmakfbmhhhaagreat", sum := "ad30d81bbeffb3e0d8765602e35f5a5a54a43d257de994a267b4bd536e90d255", func := "loop.example/g00660/laws.FnViews", spec := "fnViews", unfollowed := true, recurses := true, plainKeys := false, apart := false }
def FnViewsSaid : Prop := fnViewsRow.holds Tryz.pinned (OpenSpec.ofChange fnViewsSpec)

/-- ITS FALSE NEIGHBOUR: 'it returns false'. Refute it at one input. -/
def fnViewsWrong : ChangeSpec := { name := "fnViews", fn := fun _ => fun
  | [d] => { results := [.lit (.bool false)], args := [d] }
  | _ => none }
def FnViewsWrongFalsely : Prop := fnViewsRow.holds Tryz.pinned (OpenSpec.ofChange fnViewsWrong)

/-- 'laws.FnNothing': WHATEVER THE INPUT: true; the input reads as it did. -/
def fnNothingSpec : ChangeSpec := { name := "fnNothing", fn := fun _ => fun
  | [d] => { results := [.lit (.bool true)], args := [d] }
  | _ => none }
def fnNothingRow : OpenClaim := { program := "ytejhmakfbmhhhaagreat", sum := "ad30d81bbeffb3e0d8765602e35f5a5a54a43d257de994a267b4bd536e90d255", func := "loop.example/g00660/laws.FnNothing", spec := "fnNothing", unfollowed := true, recurses := true, plainKeys := false, apart := false }
def FnNothingSaid : Prop := fnNothingRow.holds Tryz.pinned (OpenSpec.ofChange fnNothingSpec)

/-- ITS FALSE NEIGHBOUR: 'it returns false'. Refute it at one input. -/
def fnNothingWrong : ChangeSpec := { name := "fnNothing", fn := fun _ => fun
  | [d] => { results := [.lit (.bool false)], args := [d] }
  | _ => none }
def FnNothingWrongFalsely : Prop := fnNothingRow.holds Tryz.pinned (OpenSpec.ofChange fnNothingWrong)

/- THE SECOND FORM. 'bulk': how many values and letters a reading holds, each counted each time it is reached (what is shared counts as often as it is met; a slice's spare places count too). A statement '..UptoSaid' is the law's where the arguments, and the package variables that the reading takes, are together of bulk at most 1048576: NARROWER than '..Said'. Prove '..Said' where nothing that the law and all that it calls make is longer than what came in: it says more and counts as full. Else prove '..UptoSaid'. A law counts once. -/
mutual
def uptoBulk {H : Type} : DataW H → Nat
  | .lit (.string bytes) => bytes.length + 1
  | .lit _ => 1
  | .nil => 1
  | .ptr d => uptoBulk d + 1
  | .slice elems spare => uptoBulkAll elems + uptoBulkAll spare + 1
  | .agg parts => uptoBulkAll parts + 1
  | .iface _ d => uptoBulk d + 1
  | .map entries => uptoBulkEntries entries + 1
  | .held _ => 1
def uptoBulkAll {H : Type} : List (DataW H) → Nat
  | [] => 0
  | d :: r => uptoBulk d + uptoBulkAll r
def uptoBulkEntries {H : Type} : List (Lit × DataW H) → Nat
  | [] => 0
  | x :: r => uptoBulkEntry x + uptoBulkEntries r
def uptoBulkEntry {H : Type} : Lit × DataW H → Nat
  | (.string bytes, d) => bytes.length + uptoBulk d + 1
  | (_, d) => uptoBulk d + 1
 end
def uptoSmall : (H : Type) → List (DataW H) → Bool := fun _ ds => decide (uptoBulkAll ds ≤ 1048576)
def OpenSpec.upto (s : _root_.Go.ChangeSpec) : _root_.Go.OpenSpec := { _root_.Go.OpenSpec.ofChange s with cond := some uptoSmall }

/-- 'laws.FnTotal', WHERE WHAT IT READS IS OF BULK AT MOST 1048576: true; the input reads as it did. -/
def fnTotalUptoRow : OpenClaim := { program := "ytejhmakfbmhhhaagreat", sum := "ad30d81bbeffb3e0d8765602e35f5a5a54a43d257de994a267b4bd536e90d255", func := "loop.example/g00660/laws.FnTotal", spec := "fnTotal", unfollowed := true, recurses := true, plainKeys := false, apart := false, narrowed := true }
def FnTotalUptoSaid : Prop := fnTotalUptoRow.holds Tryz.pinned (OpenSpec.upto fnTotalSpec)

/-- 'laws.FnAbsent', WHERE WHAT IT READS IS OF BULK AT MOST 1048576: true; the input reads as it did. -/
def fnAbsentUptoRow : OpenClaim := { program := "ytejhmakfbmhhhaagreat", sum := "ad30d81bbeffb3e0d8765602e35f5a5a54a43d257de994a267b4bd536e90d255", func := "loop.example/g00660/laws.FnAbsent", spec := "fnAbsent", unfollowed := true, recurses := true, plainKeys := false, apart := false, narrowed := true }
def FnAbsentUptoSaid : Prop := fnAbsentUptoRow.holds Tryz.pinned (OpenSpec.upto fnAbsentSpec)

/-- 'laws.FnViews', WHERE WHAT IT READS IS OF BULK AT MOST 1048576: true; the input reads as it did. -/
def fnViewsUptoRow : OpenClaim := { program := "ytejhmakfbmhhhaagreat", sum := "ad30d81bbeffb3e0d8765602e35f5a5a54a43d257de994a267b4bd536e90d255", func := "loop.example/g00660/laws.FnViews", spec := "fnViews", unfollowed := true, recurses := true, plainKeys := false, apart := false, narrowed := true }
def FnViewsUptoSaid : Prop := fnViewsUptoRow.holds Tryz.pinned (OpenSpec.upto fnViewsSpec)

/-- 'laws.FnNothing', WHERE WHAT IT READS IS OF BULK AT MOST 1048576: true; the input reads as it did. -/
def fnNothingUptoRow : OpenClaim := { program := "ytejhmakfbmhhhaagreat", sum := "ad30d81bbeffb3e0d8765602e35f5a5a54a43d257de994a267b4bd536e90d255", func := "loop.example/g00660/laws.FnNothing", spec := "fnNothing", unfollowed := true, recurses := true, plainKeys := false, apart := false, narrowed := true }
def FnNothingUptoSaid : Prop := fnNothingUptoRow.holds Tryz.pinned (OpenSpec.upto fnNothingSpec)

end Rows
end Go.Proofs.YtejhmakfbmhhhaaGreat
