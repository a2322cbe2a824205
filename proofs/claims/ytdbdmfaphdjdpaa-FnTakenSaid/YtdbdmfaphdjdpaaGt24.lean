/- Walks and mathematics that several claims share, part 24. -/
import Derived.Test.YtdbdmfaphdjdpaaGt22
import Derived.Test.YtdbdmfaphdjdpaaGt19
import Derived.ScopeJumps
import Derived.Deep.Cut
import Derived.Test.YtdbdmfaphdjdpaaGtA
namespace Go.Proofs.Ytdbdmfaphdjdpaa
open Go.RowKit

theorem OwnOps.tail {w : World} {lo hi : Nat} {a : Option Addr} {n : Nat} {l : List OpV} (h : OwnOps w lo hi a n l) (hn : 0 < n) : OwnOps w lo hi (Option.map (fun x => x.add 8) a) (n - 1) (l.drop 1) := by
 have hl := h.1
 refine ⟨by rw [List.length_drop]; omega, fun h1 => ?_⟩
 obtain ⟨g, off, cs, e, h2, h3, hg, hs, hc⟩ := h.2 hn
 refine ⟨g, off + 8, cs, by rw [e]; rfl, h2, h3, hg, by omega, fun i hi => ?_⟩
 have e1 : (l.drop 1).getD i OpV.zero = l.getD (i + 1) OpV.zero := by
  rw [List.getD_eq_getElem?_getD, List.getElem?_drop, List.getD_eq_getElem?_getD, Nat.add_comm 1 i]
 rw [e1]
 have := hc (i + 1) (by omega)
 have e2 : off + 8 + i * 8 = off + (i + 1) * 8 := by omega
 rw [e2]
 exact this
theorem Merge.congr {T : List OpV} {R R' : Nat → List OpV} (h : Merge T R) (hR : ∀ e, e < 4 → R' e = R e) : Merge T R' :=
 ⟨h.srt, fun y => (h.mem y).trans ⟨fun ⟨e, he, hy⟩ => ⟨e, he, by rw [hR e he]; exact hy⟩, fun ⟨e, he, hy⟩ => ⟨e, he, by rw [← hR e he]; exact hy⟩⟩, fun e he => by rw [hR e he]; exact h.run e he, fun e he y hy => h.dev e he y (by rw [← hR e he]; exact hy), fun e he y hy => h.ok e he y (by rw [← hR e he]; exact hy)⟩
def lenOf : Value → Nat
 | .slice _ n _ => n
 | _ => 0
end Go.Proofs.Ytdbdmfaphdjdpaa
