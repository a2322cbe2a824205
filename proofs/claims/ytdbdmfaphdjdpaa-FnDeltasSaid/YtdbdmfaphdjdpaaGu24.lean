/- Walks and mathematics that several claims share, part 24. -/
import Derived.Test.YtdbdmfaphdjdpaaGu22
import Derived.Test.YtdbdmfaphdjdpaaGu19
import Derived.ScopeJumps
import Derived.Deep.Cut
import Derived.Test.YtdbdmfaphdjdpaaGuA
namespace Go.Proofs.Ytdbdmfaphdjdpaa
open Go.RowKit

theorem Merge.congr {T : List OpV} {R R' : Nat → List OpV} (h : Merge T R) (hR : ∀ e, e < 4 → R' e = R e) : Merge T R' :=
 ⟨h.srt, fun y => (h.mem y).trans ⟨fun ⟨e, he, hy⟩ => ⟨e, he, by rw [hR e he]; exact hy⟩, fun ⟨e, he, hy⟩ => ⟨e, he, by rw [← hR e he]; exact hy⟩⟩, fun e he => by rw [hR e he]; exact h.run e he, fun e he y hy => h.dev e he y (by rw [← hR e he]; exact hy), fun e he y hy => h.ok e he y (by rw [← hR e he]; exact hy)⟩
def lenOf : Value → Nat
 | .slice _ n _ => n
 | _ => 0
end Go.Proofs.Ytdbdmfaphdjdpaa
