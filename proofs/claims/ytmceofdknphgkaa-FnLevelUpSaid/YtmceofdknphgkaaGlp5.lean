/- More of what several claims share. -/
import Derived.Test.YtmceofdknphgkaaGa17
import Derived.Test.YtmceofdknphgkaaGa16
import Derived.Test.YtmceofdknphgkaaGlp2
import Derived.Test.YtmceofdknphgkaaGlp4
import Derived.Deep.AppendLies
import Derived.Lib.SliceRun
import Derived.Laws.BytesArg
import Derived.Deep.RegionHeld3
import Derived.Deep.Cut
namespace Go.Proofs.Ytmceofdknphgkaa
open Go.RowKit

theorem Beside.wide {lo hi lo' hi' : Nat} {w w' : World} (h : Beside lo hi w w') (h1 : lo' ≤ lo) (h2 : hi ≤ hi') : Beside lo' hi' w w' :=
  ⟨h.os, h.tape, h.output, h.size, fun j a b => h.block j a (by omega)⟩
end Go.Proofs.Ytmceofdknphgkaa
