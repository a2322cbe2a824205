/- The walks of impl.VarOf and spec.VarOf: each returns the bytes of the encoding of its argument (none if it is negative), and writes nothing that was there. -/
import Derived.Test.YtdmhibdhnejiiabRows
import Derived.Test.YtdmhibdhnejiiabMath
import Derived.WalkKit
import Derived.WalkLawsBesides
import Derived.Laws.BytesArg
import Derived.Laws.BitsAllLaws
import Derived.Laws.Bits128
import Derived.Lib.Hide
import Derived.OpenShut
import Derived.Deep.AppendLies
namespace Go.Proofs.Ytdmhibdhnejiiab
open Go.RowKit

theorem Try.infoU8 : (Try.prog.info? 5).map (fun i => (i.zero, i.size, i.bytes)) = some (some (.int .u8 0), 1, 1) := by kernel_rfl

/-- A slice of the call's own that holds the bytes xs, converted to a string. -/
theorem run_own_string {P : Program} {w : World} {base src dst e : Nat} {v : Value} {n : Nat} {xs : List Int} (hs : P.underlying src = some (.slice e)) (he : P.underlying e = some (.int .u8)) (hd : P.underlying dst = some .string)
    (h : w.ownsRow base e 1 v n (xs.map (Value.int .u8))) (hn : 0 < n) : (convert src dst v).run P w = .ok (.string (strOfNums xs)) w := by
  obtain ⟨g, cap, hv, _, hlt⟩ := h.form hn
  subst hv
  have hl : xs.length = n := by have := h.1; simpa using this
  refine run_convert_bytes_arg w src e hs he g 0 n cap xs hl (fun i hi => ?_) dst hd
  have := h.cells (g := g) rfl i (.int .u8 (xs.getD i 0)) (by
    rw [List.getElem?_map, List.getElem?_eq_getElem (by omega), List.getD_eq_getElem?_getD, List.getElem?_eq_getElem (by omega)]; rfl)
  have ea : (⟨g, 0, none⟩ : Addr).add i = ⟨g, 0 + i, none⟩ := by unfold Addr.add; split <;> simp_all
  rwa [ea] at this




end Go.Proofs.Ytdmhibdhnejiiab
