/- Walks and mathematics that several claims share, part 44. -/
import Derived.Test.YtgagchlcafdiaaaGreatGb38
import Derived.Test.YtgagchlcafdiaaaGreatGb42
import Derived.Test.YtgagchlcafdiaaaGreatGb43
import Derived.Deep.Cut
import Derived.Test.YtgagchlcafdiaaaGreatGbA
namespace Go.Proofs.YtgagchlcafdiaaaGreat
set_option maxRecDepth 100000
open Go.RowKit
set_option linter.unusedVariables false
set_option linter.unusedSimpArgs false
set_option linter.unusedVariables false
set_option linter.unusedSimpArgs false

theorem OInv.ofsB {w wr : World} {B g : Nat} {a va : Option Addr} {len cap k vc : Nat} {l : List OfV} (h : OInv w wr B g a len cap (.slice va k vc) k l) : Ofs wr wr.heap.size va k l := by
 refine ⟨h.num, fun i hi => ?_⟩
 obtain ⟨va', vc', e, hf⟩ := h.form
 injection e with e1 e2 e3
 subst e1
 obtain ⟨q, rfl⟩ := hf (by omega)
 obtain ⟨c0, c1, c2⟩ := ofCells_at l i (by rw [h.num]; exact hi)
 have d0 := (h.own.cellAt (i * 3) (by omega)).trans c0
 have d1 := (h.own.cellAt (i * 3 + 1) (by omega)).trans c1
 have d2 := (h.own.cellAt (i * 3 + 2) (by omega)).trans c2
 refine ⟨q, 0, rfl, block_lt_of_cell d0, ?_, ?_, ?_⟩
 ·rw [Nat.zero_add]; exact d0
 ·rw [Nat.zero_add]; exact d1
 ·rw [Nat.zero_add]; exact d2
theorem linesN_items {xs : List Int} {l : List OpV} {c : Nat} (h : ∀ i, i < l.length → (l.getD i OpV.zero).item.size ≤ c) : ∀ i, i < (linesN xs l).length → ((linesN xs l).getD i LnV.zero).item.size ≤ c := fun i hi => by
 have hi2 : i < (itemsN xs l).length := by unfold linesN at hi; rwa [List.length_map] at hi
 have e : (linesN xs l).getD i LnV.zero = lineV l (itemsN xs l)[i] := by
  unfold linesN
  rw [List.getD_eq_getElem?_getD, List.getElem?_map, List.getElem?_eq_getElem hi2]
  rfl
 obtain ⟨_, j, hj, hx⟩ := itemsN_mem (List.getElem_mem hi2)
 rw [e]
 show (itemsN xs l)[i].size ≤ c
 rw [← hx]
 exact h j hj
/-- What DrawBill answers. -/
def DrawsBill (w : World) (e : Ending) (w' : World) : Prop :=
 ∃ (la pa oa : Option Addr) (ln lc pn pc on oc : Nat) (l : List LnV) (ps : List PrV) (os : List OfV), e = .returned (.tuple #[.slice la ln lc, .slice pa pn pc, .slice oa on oc]) ∧ Lns w' w'.heap.size la ln l ∧ Prs w' w'.heap.size pa pn ps ∧ Ofs w' w'.heap.size oa on os ∧ ln ≤ 1048576 ∧ pn ≤ 1048576 ∧ on ≤ 1048576 ∧ (∀ i, i < ln → (l.getD i LnV.zero).item.size ≤ 1048576) ∧ (∀ i, i < pn → (ps.getD i PrV.zero).item.size ≤ 1048576) ∧ (∀ i, i < on → (os.getD i OfV.zero).item.size ≤ 1048576) ∧ Below w.heap.size w w'
set_option maxHeartbeats 20000000 in
theorem drawBill (w : World) (B : Nat) (a : Option Addr) (len cap : Nat) (hB : B ≤ w.heap.size) (h : Src w B a len) :
  Calls Tryz.prog 6 #[.slice a len cap] w (DrawsBill w) := by
 have HS0 := Lib.hid h
 clear h
 go_enter Tryz.func6, Tryz.ntmps6
 go_wp2_with fail
 refine (l1Open w B a len cap hB HS0.out).mono ?_
 rintro e w1 ⟨rfl, hg1, hr1⟩
 have HB1 : Hid (Below w.heap.size w w1) := below_none hg1 (Nat.le_refl _)
 have hs1 := hg1.size
 have HR1 := Lib.hid hr1
 have hgl := hr1.lt
 clear hg1 hr1 HS0
 go_wp2_with fail
 refine (rdCart w1 B w.heap.size a len cap HR1.out).mono ?_
 rintro e w2 ⟨x, rfl, hx, hg2, hr2⟩
 have HB2 := Lib.hid (HB1.out.grown hg2 hs1 (fun k hk => by cases hk; exact Nat.le_refl _))
 have HR2 := Lib.hid hr2
 have hs2 := hg2.size
 obtain ⟨va, vc, oa0, no, oc0⟩ := x
 obtain ⟨xs, l, e1, a1, a2, a3, a4, a5, a6⟩ := hx
 have e1 : no = l.length := e1
 subst e1
 have HV2 := Lib.hid a1.ints
 have HO2 := Lib.hid a2.ops
 have HI : Hid (∀ i, i < l.length → (l.getD i OpV.zero).item.size ≤ 1048576) := fun i hi => Nat.le_trans (a5 i hi) (by omega)
 clear a1 a2 a3 a4 a5 hg2 hr2 HB1 HR1
 go_wp2_with fail
 refine (specLines w2 w2.heap.size va oa0 4 vc l.length oc0 xs l HV2.out HO2.out (Nat.le_refl _) (by omega) (by omega) HI.out).mono ?_
 rintro e w3 ⟨la, lc, rfl, hls, hb3⟩
 have HB3 := Lib.hid (HB2.out.trans (hb3.mono HB2.out.size))
 have hg2 := HR2.out.lt
 have hs3 := hb3.size
 have HR3 : Hid (Rd w3 B w.heap.size a len cap) := HR2.out.kept fun k hk => hb3.block k (by have := HR2.out.own; omega)
 have hll : (linesN xs l).length ≤ 160 := by unfold linesN; rw [List.length_map]; exact itemsN_len
 have HT : Hid (∀ i, i < (linesN xs l).length → ((linesN xs l).getD i LnV.zero).item.size ≤ 1048576) := linesN_items HI.out
 have HL3 := Lib.hid hls
 clear hls hb3 HV2 HO2 HI HB2 HR2
 generalize linesN xs l = L at HL3 HT hll ⊢
 go_wp2_with fail
 refine (prices w3 B w.heap.size a len cap HR3.out).mono ?_
 rintro e w4 ⟨q, off, n, ps, hn4, hn3, rfl, hwq, hq4, hps, hi8, hg4, hr4⟩
 have hs4 := hg4.size
 have HB4 := Lib.hid (HB3.out.grown hg4 HB3.out.size (fun k hk => by cases hk; exact Nat.le_refl _))
 have HL4 := Lib.hid (HL3.out.kept (w' := w4) (fun j h1 h2 => hg4.block j h2 (fun e => by injection e with e; omega)))
 have HP4 := Lib.hid hps
 have HR4 := Lib.hid hr4
 clear hps hg4 hr4 HB3 HL3 HR3
 go_wp2_with fail
 refine (offers w4 B w.heap.size a len cap HR4.out).mono ?_
 rintro e w5 ⟨oa, k, oc, os, hk, rfl, hI⟩
 have hs5 := hI.grown.size
 have HB5 := Lib.hid (HB4.out.grown hI.grown HB4.out.size (fun k hk => by cases hk; exact Nat.le_refl _))
 have HL5 := Lib.hid (HL4.out.kept (w' := w5) (fun j h1 h2 => hI.grown.block j (by omega) (fun e => by injection e with e; omega)))
 have HP5 := Lib.hid (HP4.out.kept_at (hI.grown.block q hq4 (fun e => by injection e with e; omega)) (fun _ => by omega : 0 < n → q < w5.heap.size))
 have HI5 := Lib.hid hI
 clear hI HB4 HL4 HP4 HR4
 go_wp2
 exact bodyPost_ret (v := .tuple #[.slice la L.length lc, .slice (some ⟨q, off, none⟩) n n, .slice oa k oc]) (by simp [results, Tryz.results6, go_sem]) rfl ⟨la, _, oa, L.length, lc, n, n, k, oc, L, ps, os, rfl, HL5.out.rows.more (by omega), HP5.out, HI5.out.ofsB, by omega, by omega, by omega, HT.out, fun i hi => Nat.le_trans (hi8 i hi) (by omega), fun i hi => Nat.le_trans (HI5.out.items i hi) (by omega), HB5.out⟩
end Go.Proofs.YtgagchlcafdiaaaGreat
