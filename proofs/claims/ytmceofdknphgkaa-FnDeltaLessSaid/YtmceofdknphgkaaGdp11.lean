/- More of what several claims share. -/
import Derived.Test.YtmceofdknphgkaaGa33
import Derived.Test.YtmceofdknphgkaaGdp0
import Derived.Test.YtmceofdknphgkaaGdp4
import Derived.Test.YtmceofdknphgkaaGdp6
import Derived.Test.YtmceofdknphgkaaGdp1
import Derived.Test.YtmceofdknphgkaaGdp10
import Derived.Test.YtmceofdknphgkaaGdp9
import Derived.Test.YtmceofdknphgkaaGdp8
import Derived.Deep.Cut
namespace Go.Proofs.Ytmceofdknphgkaa
open Go.RowKit
set_option linter.unusedVariables false
set_option linter.unusedSimpArgs false

theorem IntsIn.set2 {z : World} {lo hi b n : Nat} {a : Option Addr} {xs : List Int} {u v : Value} (h : IntsIn z lo hi a n xs) (hb : b < lo) : IntsIn ((z.setCell ⟨b, 0, none⟩ u).setCell ⟨b, 1, none⟩ v) lo hi a n xs :=
  ⟨⟨h.1.1, fun i hi' => by
    obtain ⟨bb, o, e, hbb, hc⟩ := h.1.2 i hi'
    have hlo := h.2 bb o (by omega) e
    exact ⟨bb, o, e, hbb, (World.cell?_of_block (a := ⟨bb, o + i, none⟩) (pair_other (k := bb) _ _ (by omega))).trans hc⟩⟩, h.2⟩
end Go.Proofs.Ytmceofdknphgkaa
