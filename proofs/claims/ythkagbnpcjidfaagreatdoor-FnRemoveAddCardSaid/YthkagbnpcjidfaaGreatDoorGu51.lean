/- Walks and mathematics that several claims share, part 51. -/
import Derived.Test.YthkagbnpcjidfaaGreatDoorGu34
import Derived.Test.YthkagbnpcjidfaaGreatDoorCards
import Derived.Test.YthkagbnpcjidfaaGreatDoorTie
import Derived.WalkKit
import Derived.ProofKit
import Derived.OpenShut
import Derived.ShutString
import Derived.OpenVars
import Derived.ChangeOld
import Derived.Below
import Derived.LaidLaws
import Derived.LaidHandle
import Derived.RowKitTokens
import Derived.Deep.DeepHandedRow
import Derived.Deep.DeepWitnessRowRef
namespace Go.Proofs.YthkagbnpcjidfaaGreatDoor
set_option maxRecDepth 100000
open Go.ChangeShapes Go.WideShapes Go.ChangeAt Go.RowKit
theorem seatOwn : ownKnob Tryz.prog.godebug = none := by kernel_rfl
theorem seatLaidOut : laidOutB Tryz.prog = true := by kernel_rfl
theorem aII : Tryz.prog.cellsOf 245 = 1 := by kernel_rfl
theorem strCells : Tryz.prog.cellsOf 9 = 1 := by kernel_rfl
theorem star : "*" ++ "errors.errorString" = "*errors.errorString" := by decide
theorem aLS (u : TypeId) (h : Tryz.prog.typeName? 3 u = some "*errors.errorString") : u = 226 :=
 typeName_ptr_named (nm := "errors.errorString") (by rw [star]; kernel_rfl) (by kernel_rfl) (by decide) u (by rw [star]; exact h)
theorem aKB : Tryz.prog.globalNamed "errors.errorType" = some 1 := by kernel_rfl
theorem aMY : (Tryz.prog.cutTypes.find? (·.1 == "internal/reflectlite.rtype")).map (·.2) = some 154 := by kernel_rfl
theorem aLV : Tryz.prog.types.size = 257 := by kernel_rfl
theorem aMZ : ((List.range 257).filter fun t => Tryz.prog.rowNamed t [101, 114, 114, 111, 114]) = [63] := by kernel_rfl
theorem aIU : typeHandle Tryz.prog 63 = .pointer (some ⟨5, 63, none⟩) := by kernel_rfl
theorem aGB : Tryz.prog.globalNamed "loop.example/g00660/impl.errForm" = some 0 := by kernel_rfl
theorem aF5 : (Tryz.prog.globals[0]?).map (·.type) = some 63 := by kernel_rfl
def aNe : List UInt8 := [116, 104, 101, 32, 99, 97, 114, 116, 44, 32, 116, 104, 101, 32, 100, 101, 118, 105, 99, 101, 32, 111, 114, 32, 116, 104, 101, 32, 99, 111, 109, 109, 97, 110, 100, 32, 105, 115, 32, 110, 111, 116, 32, 118, 97, 108, 105, 100]
theorem aGz : Tryz.prog.globalNamed "loop.example/g00660/impl.errNone" = some 2 := by kernel_rfl
theorem aF3 : (Tryz.prog.globals[2]?).map (·.type) = some 63 := by kernel_rfl
def aNc : List UInt8 := [116, 104, 101, 114, 101, 32, 105, 115, 32, 110, 111, 116, 104, 105, 110, 103, 32, 116, 104, 97, 116, 32, 116, 104, 101, 32, 99, 111, 109, 109, 97, 110, 100, 32, 99, 111, 117, 108, 100, 32, 99, 104, 97, 110, 103, 101]
theorem aFa : Tryz.prog.globalNamed "loop.example/g00660/impl.errThere" = some 3 := by kernel_rfl
theorem aEU : (Tryz.prog.globals[3]?).map (·.type) = some 63 := by kernel_rfl
def aM6 : List UInt8 := [116, 104, 101, 32, 105, 116, 101, 109, 32, 105, 115, 32, 112, 114, 101, 115, 101, 110, 116]
theorem aGA : Tryz.prog.globalNamed "loop.example/g00660/impl.errFull" = some 4 := by kernel_rfl
theorem aF4 : (Tryz.prog.globals[4]?).map (·.type) = some 63 := by kernel_rfl
def aNd : List UInt8 := [97, 32, 108, 105, 109, 105, 116, 32, 105, 115, 32, 114, 101, 97, 99, 104, 101, 100]
def aHE : List (String × DataW Unit) := [("loop.example/g00660/impl.errForm", Rows.laid_loop_example_g00660_impl_errForm), ("loop.example/g00660/impl.errNone", Rows.laid_loop_example_g00660_impl_errNone), ("loop.example/g00660/impl.errThere", Rows.laid_loop_example_g00660_impl_errThere), ("loop.example/g00660/impl.errFull", Rows.laid_loop_example_g00660_impl_errFull)]
def aGh : List (String × DataW Unit) := [("errors.errorType", Rows.laid_errors_errorType)]
def aCq : List (String × DataW Unit) := [("errors.errorType", Rows.laid_errors_errorType), ("loop.example/g00660/impl.errForm", Rows.laid_loop_example_g00660_impl_errForm), ("loop.example/g00660/impl.errNone", Rows.laid_loop_example_g00660_impl_errNone), ("loop.example/g00660/impl.errThere", Rows.laid_loop_example_g00660_impl_errThere), ("loop.example/g00660/impl.errFull", Rows.laid_loop_example_g00660_impl_errFull)]
theorem aAu {W : World} {g : Nat} {nm : String} {T : List UInt8} {gg : Nat} {t : TypeId} {cs : Array Value} {f : Nat} {pp : List MemPlace} (ps : List MemPlace)
  (hn : Tryz.prog.globalNamed nm = some g) (ht : (Tryz.prog.globals[g]?).map (·.type) = some 63)
  (hg : Tryz.prog.globalNamed nm = some gg) (ht0 : (Tryz.prog.globals[gg]?).map (·.type) = some t) (hv : W.var? Tryz.prog nm = some cs)
  (hd : DataW.trod (fun _ => ()) Tryz.prog W 0 (fun _ => true) false f t cs.toList = some (.iface "*errors.errorString" (.ptr (.agg [.lit (.string T)])), pp))
  (aLn : ∀ x, x ∈ MemPlace.row ⟨gg, 0, none⟩ cs.size ++ pp → x ∈ ps)
  (J7 : ∀ b off, MemPlace.cell b off ∈ ps → (∃ c t, W.heap[b]? = some (.cells c t (0, 0))) ∧ ∀ u v, W.cell? ⟨b, off, none⟩ = some (.iface u v) → Value.okWide Tryz.prog W .any 0 u v) :
  ∃ (a : Addr) (s : ByteArray), W.cell? ⟨g, 0, none⟩ = some (.iface 226 (.pointer (some a))) ∧ W.cell? a = some (.string s) ∧ s.data.toList = T ∧ ∃ c t, W.heap[a.block]? = some (.cells c t (0, 0)) := by
 obtain rfl := Option.some.inj (hn.symm.trans hg)
 obtain rfl := Option.some.inj (ht.symm.trans ht0)
 obtain ⟨l0⟩ := cs
 have ok0 : ∀ u v, l0 = [.iface u v] → Value.okWide Tryz.prog W .any 0 u v := fun u v e => by
  subst e; exact (J7 g 0 (aLn _ (List.mem_append_left _ (by simp [MemPlace.row])))).2 u v (by simpa using World.var?_cell hn hv 0)
 obtain ⟨a0, s0, rfl, A7, jW, gK, rfl⟩ := errorString_of_trod Tryz.underlying63 aLS Tryz.underlying226 Tryz.underlying245 rfl rfl Tryz.underlying9 aII strCells hd ok0
 exact ⟨a0, s0, by simpa using World.var?_cell hn hv 0, A7, jW, (J7 a0.block a0.off (aLn _ (List.mem_append_right _ (by simp [MemPlace.row])))).1⟩
theorem aFA {W : World} (h : handlesMet Tryz.prog aGh W) : W.cell? ⟨1, 0, none⟩ = some (.iface 154 (.agg #[.pointer (some ⟨5, 63, none⟩)])) := by
 obtain ⟨name, u, ty, e1, e2, e3, e4, e5⟩ := h _ (List.mem_singleton.2 rfl)
 have en : name = [101, 114, 114, 111, 114] := (Option.some.inj e1).symm
 subst en
 obtain rfl := Option.some.inj (aMY.symm.trans e2)
 have hm : ty ∈ (List.range 257).filter fun t => Tryz.prog.rowNamed t [101, 114, 114, 111, 114] := List.mem_filter.2 ⟨List.mem_range.2 (by rw [← aLV]; exact e3), e4⟩
 rw [aMZ] at hm
 obtain rfl := List.mem_singleton.1 hm
 rw [aIU] at e5
 simpa using World.var?_cell aKB e5 0
theorem errs_of_laid {W : World} (h0 : laidMetH Tryz.prog aCq W) : ∃ E, eG W W.heap.size E := by
 have h : laidMet Tryz.prog aHE W ∧ handlesMet Tryz.prog aGh W := h0
 have hty := aFA h.2
 obtain ⟨ps, ⟨g1, t1, cs1, f1, p1, q1, bZ, ht1, hv1, hd1, ⟨g2, t2, cs2, f2, p2, q2, eH, ht2, M8, hd2, ⟨g3, t3, cs3, f3, p3, q3, hg3, ht3, hv3, hd3, ⟨g4, t4, cs4, f4, p4, q4, wP, ht4, hv4, N4, hq4, e4⟩, e3⟩, e2⟩, e1⟩, hnd, J7⟩ := h.1
 have eZ : ∀ x, x ∈ MemPlace.row ⟨g1, 0, none⟩ cs1.size ++ p1 → x ∈ ps := fun x hx => by rw [e1]; exact List.mem_append_left _ hx
 have eC : ∀ x, x ∈ MemPlace.row ⟨g2, 0, none⟩ cs2.size ++ p2 → x ∈ q1 := fun x hx => by rw [e2]; exact List.mem_append_left _ hx
 have gO : ∀ x, x ∈ MemPlace.row ⟨g3, 0, none⟩ cs3.size ++ p3 → x ∈ q2 := fun x hx => by rw [e3]; exact List.mem_append_left _ hx
 have F3 : ∀ x, x ∈ MemPlace.row ⟨g4, 0, none⟩ cs4.size ++ p4 → x ∈ q3 := fun x hx => by rw [e4]; exact List.mem_append_left _ hx
 obtain ⟨a1, s1, c1, k1, x1, b1⟩ := aAu ps aGB aF5 bZ ht1 hv1 hd1 (fun x hx => eZ x hx) J7
 obtain ⟨a2, s2, c2, k2, x2, b2⟩ := aAu ps aGz aF3 eH ht2 M8 hd2 (fun x hx => by rw [e1]; exact List.mem_append_right _ (eC x hx)) J7
 obtain ⟨a3, s3, c3, k3, x3, b3⟩ := aAu ps aFa aEU hg3 ht3 hv3 hd3 (fun x hx => by rw [e1]; exact List.mem_append_right _ (by rw [e2]; exact List.mem_append_right _ (gO x hx))) J7
 obtain ⟨a4, s4, c4, k4, x4, b4⟩ := aAu ps aGA aF4 wP ht4 hv4 N4 (fun x hx => by rw [e1]; exact List.mem_append_right _ (by rw [e2]; exact List.mem_append_right _ (by rw [e3]; exact List.mem_append_right _ (F3 x hx)))) J7
 have N8 : ∀ (a b : Addr) (s t : ByteArray) (S T : List UInt8), W.cell? a = some (.string s) → W.cell? b = some (.string t) → s.data.toList = S → t.data.toList = T → S ≠ T → a ≠ b := by
  intro a b s t S T h1 h2 h3 h4 h5 h6
  subst h6; rw [h1] at h2; injection h2 with h2; injection h2 with h2; subst h2; exact h5 (h3.symm.trans h4)
 have lt : ∀ (a : Addr) v, W.cell? a = some v → a.block < W.heap.size := fun a v h => World.block_lt_of_cell? W a (by rw [h])
 have l4 := lt _ _ c4
 refine ⟨fun c => if c = 1 then a1 else if c = 2 then a2 else if c = 3 then a3 else a4, ⟨by exact l4, fun c h1 h2 => ?_, fun c h1 h2 => ?_, fun c d h1 h2 h3 h4 h5 => ?_, hty⟩⟩
 ·rcases (show c = 1 ∨ c = 2 ∨ c = 3 ∨ c = 4 by omega) with rfl | rfl | rfl | rfl
  ·exact c1
  ·exact c2
  ·exact c3
  ·exact c4
 ·rcases (show c = 1 ∨ c = 2 ∨ c = 3 ∨ c = 4 by omega) with rfl | rfl | rfl | rfl
  ·exact ⟨lt _ _ k1, b1⟩
  ·exact ⟨lt _ _ k2, b2⟩
  ·exact ⟨lt _ _ k3, b3⟩
  ·exact ⟨lt _ _ k4, b4⟩
 ·rcases (show c = 1 ∨ c = 2 ∨ c = 3 ∨ c = 4 by omega) with rfl | rfl | rfl | rfl <;> rcases (show d = 1 ∨ d = 2 ∨ d = 3 ∨ d = 4 by omega) with rfl | rfl | rfl | rfl
  ·exact absurd rfl h5
  ·exact N8 a1 a2 _ _ _ _ k1 k2 x1 x2 (by decide)
  ·exact N8 a1 a3 _ _ _ _ k1 k3 x1 x3 (by decide)
  ·exact N8 a1 a4 _ _ _ _ k1 k4 x1 x4 (by decide)
  ·exact N8 a2 a1 _ _ _ _ k2 k1 x2 x1 (by decide)
  ·exact absurd rfl h5
  ·exact N8 a2 a3 _ _ _ _ k2 k3 x2 x3 (by decide)
  ·exact N8 a2 a4 _ _ _ _ k2 k4 x2 x4 (by decide)
  ·exact N8 a3 a1 _ _ _ _ k3 k1 x3 x1 (by decide)
  ·exact N8 a3 a2 _ _ _ _ k3 k2 x3 x2 (by decide)
  ·exact absurd rfl h5
  ·exact N8 a3 a4 _ _ _ _ k3 k4 x3 x4 (by decide)
  ·exact N8 a4 a1 _ _ _ _ k4 k1 x4 x1 (by decide)
  ·exact N8 a4 a2 _ _ _ _ k4 k2 x4 x2 (by decide)
  ·exact N8 a4 a3 _ _ _ _ k4 k3 x4 x3 (by decide)
  ·exact absurd rfl h5
noncomputable def low : Nat := (World.holding Tryz.prog default ⟨#[], #[], []⟩).heap.size
noncomputable def laidWorld (os : Os) : World :=
 let w0 := World.holding Tryz.prog os ⟨#[.cells #[.string ⟨#[116, 104, 101, 32, 99, 97, 114, 116, 44, 32, 116, 104, 101, 32, 100, 101, 118, 105, 99, 101, 32, 111, 114, 32, 116, 104, 101, 32, 99, 111, 109, 109, 97, 110, 100, 32, 105, 115, 32, 110, 111, 116, 32, 118, 97, 108, 105, 100]⟩] 245, .cells #[.string ⟨#[116, 104, 101, 114, 101, 32, 105, 115, 32, 110, 111, 116, 104, 105, 110, 103, 32, 116, 104, 97, 116, 32, 116, 104, 101, 32, 99, 111, 109, 109, 97, 110, 100, 32, 99, 111, 117, 108, 100, 32, 99, 104, 97, 110, 103, 101]⟩] 245, .cells #[.string ⟨#[116, 104, 101, 32, 105, 116, 101, 109, 32, 105, 115, 32, 112, 114, 101, 115, 101, 110, 116]⟩] 245, .cells #[.string ⟨#[97, 32, 108, 105, 109, 105, 116, 32, 105, 115, 32, 114, 101, 97, 99, 104, 101, 100]⟩] 245], #[], []⟩
 let lay := fun (g : Nat) (v : Value) (h : Array Obj) => h.modify g fun
   | .cells _ t frozen => .cells #[v] t frozen
   | o => o
 { w0 with heap := lay 1 (.iface 154 (.agg #[.pointer (some ⟨5, 63, none⟩)])) (lay 0 (.iface 226 (.pointer (some ⟨low + 0, 0, none⟩))) (lay 2 (.iface 226 (.pointer (some ⟨low + 1, 0, none⟩))) (lay 3 (.iface 226 (.pointer (some ⟨low + 2, 0, none⟩))) (lay 4 (.iface 226 (.pointer (some ⟨low + 3, 0, none⟩))) (w0.heap))))) }
theorem laid_met (os : Os) (args : Array Value) : laidMetH Tryz.prog aCq ((laidWorld os).forCall (fun _ _ => 0) ⟨#[], args, []⟩).memory :=
 laidMetH_of_parts (laidMet_of_run (ps := [.cell 0 0, .cell (low + 0) 0, .cell 2 0, .cell (low + 1) 0, .cell 3 0, .cell (low + 2) 0, .cell 4 0, .cell (low + 3) 0]) 8 (by kernel_rfl) (by kernel_rfl) (by kernel_rfl)) (by kernel_rfl)
theorem vars_rowed : varsRowed Tryz.prog ["loop.example/g00660/impl.errForm", "loop.example/g00660/impl.errNone", "loop.example/g00660/impl.errThere", "loop.example/g00660/impl.errFull"] = true := by kernel_rfl
end Go.Proofs.YthkagbnpcjidfaaGreatDoor
