/- Walks and mathematics that several claims share, part 22. -/
import Derived.Test.YtejhmakfbmhhhaaGc20
import Derived.Test.YtejhmakfbmhhhaaGc21
import Derived.Test.YtejhmakfbmhhhaaGc17
import Derived.Test.YtejhmakfbmhhhaaGc18
import Derived.Laws.MakeOwn
import Derived.Deep.Cut
import Derived.Deep.RegionHeld3
namespace Go.Proofs.Ytejhmakfbmhhhaa
open Go.RowKit

theorem row_put {w : World} {base b i n : Nat} {v u : Value} {xs : List Value} (h : w.ownsRow base 80 8 v n xs) (hb : ∀ g, v.ownBlock = some g → g ≠ b) : (w.setCell ⟨b, i, none⟩ u).ownsRow base 80 8 v n xs := by
  refine h.kept (row := some b) ⟨rfl, rfl, rfl, by simp [World.setCell], fun j _ hne => heap_setCell_other _ _ _ _ (fun e => hne (by rw [e]))⟩ ?_
  rcases hg : v.ownBlock with _ | g
  · exact .inl rfl
  · refine .inr fun e => ?_
    injection e with e
    exact hb g hg e
set_option maxRecDepth 100000 in
theorem SetIs.len {w : World} {b n : Nat} {f : Int → Int → Option OpV} (h : SetIs w b n f) : ∃ c : Nat, c ≤ n ∧ ∀ ty, (Builtin.len_ #[83] ty #[.map (some b)]).run Try.prog w = .ok (.int .i64 (c : Int)) w := by
  obtain ⟨D, h1, _⟩ := h
  exact ⟨_, h1.size_le, fun ty => h1.len Try.underlying83 ty⟩
/-- A list of the call's own, and what is known of its capacity. -/
def OpsPostK (l : List OpV) (w : World) (e : Ending) (w' : World) : Prop := ∃ a c, e = .returned (.slice a l.length c) ∧ Caps a l.length c ∧ OwnOps w' w.heap.size w'.heap.size a l.length l ∧ Below w.heap.size w w'
end Go.Proofs.Ytejhmakfbmhhhaa

namespace Go.Proofs.Ytejhmakfbmhhhaa
open Go.RowKit

/-- A cart of the call's own, and a flag. -/
def CartPost (ok : Bool) (zs : List Int) (L : List OpV) (w : World) (e : Ending) (w' : World) : Prop := ∃ va vc oa oc mid, e = .returned (.tuple #[.agg #[.slice va zs.length vc, .slice oa L.length oc], .bool ok]) ∧ Own w' w.heap.size mid va zs.length zs ∧ OwnOps w' mid w'.heap.size oa L.length L ∧ w.heap.size ≤ mid ∧ mid ≤ w'.heap.size ∧ Below w.heap.size w w'
/-- The same, and what is known of the operations' capacity. -/
def CartPostK (ok : Bool) (zs : List Int) (L : List OpV) (w : World) (e : Ending) (w' : World) : Prop := ∃ va vc oa oc mid, e = .returned (.tuple #[.agg #[.slice va zs.length vc, .slice oa L.length oc], .bool ok]) ∧ Own w' w.heap.size mid va zs.length zs ∧ OwnOps w' mid w'.heap.size oa L.length L ∧ w.heap.size ≤ mid ∧ mid ≤ w'.heap.size ∧ Below w.heap.size w w' ∧ Caps oa L.length oc
theorem CartPostK.cart {ok : Bool} {zs : List Int} {L : List OpV} {w w' : World} {e : Ending} (h : CartPostK ok zs L w e w') : CartPost ok zs L w e w' := by
  obtain ⟨va, vc, oa, oc, mid, e1, h1, h2, h3, h4, h5, _⟩ := h
  exact ⟨va, vc, oa, oc, mid, e1, h1, h2, h3, h4, h5⟩
theorem own_nil (w : World) (lo hi : Nat) (a : Option Addr) : Own w lo hi a 0 [] := ⟨rfl, fun h => absurd h (by omega)⟩
theorem TriF.set2 {w w1 : World} {x y : Array Value} {z0 z1 : Value} {S T U : TypeId} (h : TriF w w1 x y #[z0, z1] S T U) (u v : Value) :
    ((w1.setCell ⟨w.heap.size + 1 + 1, 0, none⟩ u).setCell ⟨w.heap.size + 1 + 1, 1, none⟩ v).heap[w.heap.size + 1 + 1]? = some (.cells #[u, v] U (0, 0)) ∧ Below w.heap.size w ((w1.setCell ⟨w.heap.size + 1 + 1, 0, none⟩ u).setCell ⟨w.heap.size + 1 + 1, 1, none⟩ v) :=
  ⟨pair_set _ _ h.res, (h.bel.setCell (by show _ ≤ w.heap.size + 1 + 1; omega) _).setCell (by show _ ≤ w.heap.size + 1 + 1; omega) _⟩
end Go.Proofs.Ytejhmakfbmhhhaa

namespace Go.Proofs.Ytejhmakfbmhhhaa
open Go.RowKit

/-- Does the vector count the operation? -/
def cutP (v : List Int) (o : OpV) : Bool := decide (o.seq ≤ v.getD o.dev.toNat 0)
def cutB (xs : List Int) (l : List OpV) (v : List Int) : Bool := cartB xs l && vecOk v
def cutVs (xs v : List Int) (ok : Bool) : List Int := if ok = true then zipI min xs v else []
def cutOs (l : List OpV) (v : List Int) (ok : Bool) : List OpV := if ok = true then l.filter (cutP v) else []
theorem cutVs_len {l : List OpV} (xs v : List Int) {R : Bool} (h : cutB xs l v = R) : (cutVs xs v R).length ≤ 4 := by
  unfold cutVs
  split
  · rename_i hR
    subst hR
    unfold cutB at h
    rw [Bool.and_eq_true] at h
    unfold zipI
    rw [List.length_zipWith]
    have := (vec_at h.2 (d := 0) (by omega)).2.2
    omega
  · exact Nat.zero_le _
theorem cutOs_len {l : List OpV} {v : List Int} {N : Nat} (h : l.length ≤ N) (R : Bool) : (cutOs l v R).length ≤ N := by
  unfold cutOs
  split
  · exact Nat.le_trans (List.length_filter_le _ _) h
  · exact Nat.zero_le _
theorem cut_items {q : OpV → Bool} {m : List OpV} {N : Nat} (h : ∀ i, i < m.length → (atOp m i).item.size ≤ N) : ∀ i, i < (m.filter q).length → ((m.filter q).getD i OpV.zero).item.size ≤ N := fun i hi => by
  rw [List.getD_eq_getElem?_getD, List.getElem?_eq_getElem hi]
  have hm : (m.filter q)[i] ∈ m := (List.mem_filter.1 (List.getElem_mem hi)).1
  obtain ⟨j, hj, e⟩ := List.mem_iff_getElem.1 hm
  have := h j hj
  unfold atOp at this
  rw [List.getD_eq_getElem?_getD, List.getElem?_eq_getElem hj] at this
  rw [← e]
  exact this
end Go.Proofs.Ytejhmakfbmhhhaa

namespace Go.Proofs.Ytejhmakfbmhhhaa
open Go.RowKit


set_option maxRecDepth 100000 in
set_option maxHeartbeats 5000000 in
theorem cloneOpsK (w : World) (B b off n cap : Nat) (l : List OpV) (h : Ops w B (some ⟨b, off, none⟩) n l) (hB : B ≤ w.heap.size) (hl : n ≤ 1048576) : Calls Try.prog 112 #[.slice (some ⟨b, off, none⟩) n cap] w (OpsPostK l w) := by
  obtain ⟨i0, hi, hz0, hz1, hz2⟩ := info_parts Try.infoOp
  have hnil := fun w => Lib.run_eql_slice_nil (P := Try.prog) w 29 80 (some ⟨b, off, none⟩) n cap 0 0 Try.underlying29
  have hown : (w.alloc (.cells #[] 80)).ownsRow w.heap.size 80 8 (.slice (some ⟨w.heap.size, 0, none⟩) 0 0) 0 [] := World.ownsRow_made w #[] 0 (Nat.le_refl _) (by unfold maxLen; omega) rfl
  have hL := Lib.hid h.1
  have H := Lib.hid h
  clear h
  go_enter Try.func112, Try.ntmps112
  go_wp2_with (at_builtin; refine wpList_append_own _ rfl _ _ 29 rfl w.heap.size 80 i0 (.agg #[.int .i64 0, .int .i64 0, .int .i64 0, .int .i64 0, .string ⟨#[]⟩, .int .i64 0, .int .i64 0, .int .i64 0]) 8 72 Try.underlying29 hi hz0 hz1 hz2 rfl (by decide) _ _ _ rfl hown ⟨b, off, none⟩ n cap (opCells l) rfl ?c0 ?c1 ?c2 ?c3 ?c4 ?c5 ?_)
  case c0 => rw [opCells_len, hL.out]
  case c1 => exact cells_of_ops (H.out.below ((Below.refl w.heap.size w).alloc (Nat.le_refl _) _) hB)
  case c2 => exact opCells_one l
  case c3 => unfold maxLen; omega
  case c4 => omega
  case c5 => simp
  intro v' w1 hown' hgrow hnn
  have hb1 := ((Below.refl w.heap.size w).alloc (Nat.le_refl _) _).grown hgrow (by simp) (fun j hj => (hown.lt j hj).1)
  have hown2 : w1.ownsRow w.heap.size 80 8 v' n (opCells l) := by simpa using hown'
  obtain ⟨a', cap', hv⟩ : ∃ a' cap', v' = .slice a' n cap' := by
    rcases hown2.2 with ⟨e, e2⟩ | ⟨g, c, cur, e, _⟩
    · exact ⟨none, 0, by rw [e, e2]⟩
    · exact ⟨_, _, e⟩
  subst hv
  have hvc := Lib.hid (caps_of_row hown2)
  have HO := Lib.hid (own_of_cells (hi := w1.heap.size) hown2 (Nat.le_refl _))
  clear hown' hown2 hgrow hown hnn
  go_wp2
  go_ret
  exact ⟨a', cap', by rw [hL.out]; rfl, by rw [hL.out]; exact hvc.out, by rw [hL.out]; exact HO.out, hb1⟩

set_option maxRecDepth 100000 in
set_option maxHeartbeats 10000000 in
theorem copiedOpsK (w : World) (B : Nat) (a : Option Addr) (n cap : Nat) (l : List OpV) (h : Ops w B a n l) (hB : B ≤ w.heap.size) (hn : n ≤ 1048576) (hcap : a = none → cap = 0) (hnz : 0 < n ∨ a = none) (hm : ∀ i, i < n → (l.getD i OpV.zero).item.size ≤ 1048576) : Calls Try.prog 66 #[.slice a n cap] w (OpsPostK l w) := by
  by_cases h0 : 0 < n
  · obtain ⟨b, off, rfl, hb, _⟩ := h.2 0 h0
    have HL := Lib.hid h.1
    have HM := Lib.hid hm
    clear hm hcap hnz
    go_enter Try.func66, Try.ntmps66
    go_wp2_with fail
    refine (cloneOpsK w B b off n cap l h hB hn).mono ?_
    rintro e w1 ⟨a1, c1, rfl, hcc, ho, hb1⟩
    rw [h.1] at hcc
    have hcc := Lib.hid hcc
    have HC1 : Hid (∃ g o1, a1 = some ⟨g, o1, none⟩ ∧ w.heap.size ≤ g ∧ CS g o1 n l w w1) := by
      rw [h.1] at ho
      obtain ⟨g, o1, cs, e1, h1, h2, hg, hs, hc⟩ := ho.2 h0
      exact ⟨g, o1, e1, h1, hb1, cs, hg, hs, hc⟩
    clear ho hb1 h
    obtain ⟨g, o1, rfl, hg0, hcs⟩ := HC1.out
    have HC := Lib.hid hcs
    clear hcs HC1
    rw [HL.out]
    go_wp2
    go_loopw [4, 9] (fun _ i wr => ∃ k : Nat, k ≤ n ∧ i = .int .i64 (k : Int) ∧ Hid (CS g o1 n l w wr)) (fun _ i _ => n - (intOf i).toNat)
    case atStart => exact ⟨0, by omega, rfl, HC⟩
    case round =>
      obtain ⟨k, hk, rfl, HR⟩ := hrel
      by_cases hlt : k < n
      rotate_left
      · obtain rfl : k = n := by omega
        have HP : Hid (OpsPostK l w (.returned (.slice (some ⟨g, o1, none⟩) k c1)) wr) := by
          obtain ⟨h1, cs, hg, hs, hc⟩ := HR.out
          exact ⟨some ⟨g, o1, none⟩, c1, by rw [HL.out], by rw [HL.out]; exact hcc.out, ⟨rfl, fun _ => ⟨g, o1, cs, rfl, hg0, (Array.getElem?_eq_some_iff.1 hg).1, hg, by rw [HL.out]; exact hs, by rw [HL.out]; exact hc⟩⟩, h1⟩
        go_wp2
        go_ret
        exact HP.out
      have hit := HM.out k hlt
      have hput := fun w2 (h : CS g o1 n l w w2) => h.put hg0 hlt
      have HPut := Lib.hid hput
      clear hput
      have HCell : Hid (∀ w2, CS g o1 n l w w2 → w2.cell? ⟨g, o1 + k * 8 + 4, none⟩ = some (.string (l.getD k OpV.zero).item) ∧ w2.frozen? ⟨g, o1 + k * 8 + 4, none⟩ = false) := fun w2 h => by
        obtain ⟨_, cs, hg, _, hc⟩ := h
        exact ⟨((hc k hlt).at hg).2.2.2.2.1, frozen_of_row _ _ _ _ _ hg⟩
      generalize (l.getD k OpV.zero).item = s at hit HPut HCell
      have c4 := (HCell.out wr HR.out).1
      go_wp2_with fail
      refine (strClone s hit _).mono ?_
      rintro e w2 ⟨rfl, hb2⟩
      have HR2 := Lib.hid (HR.out.step hb2)
      clear c4 hb2 HR
      have c4 := (HCell.out w2 HR2.out).1
      have f4 := (HCell.out w2 HR2.out).2
      have HR3 := Lib.hid (HPut.out w2 HR2.out)
      go_wp2
      go_roundw
      case rel => exact ⟨k + 1, by omega, by go_num, HR3⟩
      case measure => simp [intOf]; omega
  · obtain rfl : n = 0 := by omega
    have hl : l = [] := List.eq_nil_of_length_eq_zero h.1
    subst hl
    clear hm
    rcases a with _ | ad
    · obtain rfl := hcap rfl
      clear hnz h0
      go_enter Try.func66, Try.ntmps66
      go_wp2_with fail
      refine (cloneNil w).mono ?_
      rintro e w1 ⟨rfl, rfl⟩
      go_wp2
      refine wp_loop_rounds 1 ?_
      rw [rounds_succ]
      go_wp2
      go_ret
      exact ⟨none, 0, rfl, caps_nil, own_none _ _ _ _, Below.refl _ _⟩
    · exact absurd hnz (by rintro (h | h); exact h0 h; cases h)

end Go.Proofs.Ytejhmakfbmhhhaa

namespace Go.Proofs.Ytejhmakfbmhhhaa
open Go.RowKit

theorem Two.set2 {w w1 : World} {x : Array Value} {z0 z1 : Value} {T : TypeId} (h : Two w w1 x #[z0, z1] T) (u v : Value) :
    ((w1.setCell ⟨w.heap.size + 1, 0, none⟩ u).setCell ⟨w.heap.size + 1, 1, none⟩ v).heap[w.heap.size + 1]? = some (.cells #[u, v] T (0, 0)) ∧ Below w.heap.size w ((w1.setCell ⟨w.heap.size + 1, 0, none⟩ u).setCell ⟨w.heap.size + 1, 1, none⟩ v) :=
  ⟨pair_set _ _ h.snd, (h.bel.setCell (by show _ ≤ w.heap.size + 1; omega) _).setCell (by show _ ≤ w.heap.size + 1; omega) _⟩
theorem cut_no {xs : List Int} {l : List OpV} {v : List Int} (h : cartB xs l = false) : cutB xs l v = false := by unfold cutB; rw [h]; rfl
theorem cut_no2 {xs : List Int} {l : List OpV} {v : List Int} (h : vecOk v = false) : cutB xs l v = false := by unfold cutB; rw [h, Bool.and_false]
theorem cut_yes {xs : List Int} {l : List OpV} {v : List Int} (h : cartB xs l = true) (h2 : vecOk v = true) : cutB xs l v = true := by unfold cutB; rw [h, h2]; rfl
set_option linter.unusedSimpArgs false in
set_option maxRecDepth 100000 in
set_option maxHeartbeats 80000000 in
theorem implCut (w : World) (B : Nat) (av ao bv : Option Addr) (nv cv no co mv dv : Nat) (xs : List Int) (l : List OpV) (ys : List Int) (hx : Ints w B av nv xs) (h : Ops w B ao no l) (hy : Ints w B bv mv ys) (hB : B ≤ w.heap.size) (hv : nv ≤ 1048576) (hc : no ≤ co) (hc2 : Fits no co) (hm : ∀ i, i < no → (atOp l i).item.size ≤ 1048576) (hv2 : mv ≤ 1048576) :
    Calls Try.prog 19 #[.agg #[.slice av nv cv, .slice ao no co], .slice bv mv dv] w (CartPostK (cutB xs l ys) (cutVs xs ys (cutB xs l ys)) (cutOs l ys (cutB xs l ys)) w) := by
  have hT := Two.mk0 w #[.slice av nv cv, .slice ao no co] #[.slice none 0 0, .slice none 0 0] 31
  have HV := Lib.hid (hx.below hT.bel hB)
  have HO := Lib.hid (h.below hT.bel hB)
  have HY := Lib.hid (hy.below hT.bel hB)
  have HT := Lib.hid hT
  have HLx := Lib.hid hx.1
  have HL := Lib.hid h.1
  have HLy := Lib.hid hy.1
  have HM := Lib.hid hm
  have hBw := hB
  have hn : no ≤ 1048576 := hc2.1
  have HF := Lib.hid hc2
  obtain ⟨R, hR⟩ : ∃ R, cutB xs l ys = R := ⟨_, rfl⟩
  have HR := Lib.hid hR
  clear hx h hy hT hm hB hc2
  rw [hR]
  clear hR
  go_enter Try.func19, Try.ntmps19
  go_wp2_with fail
  generalize (w.alloc (.cells #[.slice av nv cv, .slice ao no co] 31)).alloc (.cells #[.slice none 0 0, .slice none 0 0] 31) = w0 at HV HO HY HT ⊢
  have hsz0 := HT.out.bel.size
  have hsz1 := lt_of_row HT.out.snd
  refine (implCartOk w0 B av ao nv cv no co xs l HV.out HO.out (by omega) hv hc HF.out).mono ?_
  rintro e w1 ⟨rfl, hb⟩
  have HV1 := Lib.hid (HV.out.below hb (by omega))
  have HO1 := Lib.hid (HO.out.below hb (by omega))
  have HY1 := Lib.hid (HY.out.below hb (by omega))
  have HT1 := Lib.hid (HT.out.next hb)
  have hs1 := hb.size
  clear hb HV HO HY HT
  obtain ⟨ca, hca⟩ : ∃ b, cartB xs l = b := ⟨_, rfl⟩
  have HCa := Lib.hid hca
  rw [hca]
  clear hca
  cases ca
  · skip
    obtain rfl : R = false := by rw [← HR.out]; exact cut_no HCa.out
    obtain ⟨r0, r1⟩ := pair_cells HT1.out.snd
    obtain ⟨fz0, fz1⟩ := pair_frozen HT1.out.snd
    have HXr := Lib.hid (HT1.out.set2 (.slice none 0 0) (.slice none 0 0)).1
    have HBr2 := Lib.hid (HT1.out.set2 (.slice none 0 0) (.slice none 0 0)).2
    go_wp2
    change bodyPost _ _ _ _ _ ((w1.setCell ⟨w.heap.size + 1, 0, none⟩ (.slice none 0 0)).setCell ⟨w.heap.size + 1, 1, none⟩ (.slice none 0 0))
    generalize (w1.setCell ⟨w.heap.size + 1, 0, none⟩ (.slice none 0 0)).setCell ⟨w.heap.size + 1, 1, none⟩ (.slice none 0 0) = wf at HXr HBr2 ⊢
    obtain ⟨q0, q1⟩ := pair_cells HXr.out
    have hsf := HBr2.out.size
    exact bodyPost_ret (v := .tuple #[.agg #[.slice none 0 0, .slice none 0 0], .bool false]) (by simp [results, Try.results19, go_sem, q0, q1]) rfl ⟨none, 0, none, 0, w.heap.size, rfl, own_nil _ _ _ _, own_none _ _ _ _, Nat.le_refl _, hsf, HBr2.out, caps_nil⟩
  go_wp2_with fail
  refine (implVecOk w1 B bv mv dv ys HY1.out hv2).mono ?_
  rintro e w2 ⟨rfl, rfl⟩
  obtain ⟨cb, hcb⟩ : ∃ b, vecOk ys = b := ⟨_, rfl⟩
  have HCb := Lib.hid hcb
  rw [hcb]
  clear hcb
  cases cb
  · skip
    obtain rfl : R = false := by rw [← HR.out]; exact cut_no2 HCb.out
    obtain ⟨r0, r1⟩ := pair_cells HT1.out.snd
    obtain ⟨fz0, fz1⟩ := pair_frozen HT1.out.snd
    have HXr := Lib.hid (HT1.out.set2 (.slice none 0 0) (.slice none 0 0)).1
    have HBr2 := Lib.hid (HT1.out.set2 (.slice none 0 0) (.slice none 0 0)).2
    go_wp2
    change bodyPost _ _ _ _ _ ((w1.setCell ⟨w.heap.size + 1, 0, none⟩ (.slice none 0 0)).setCell ⟨w.heap.size + 1, 1, none⟩ (.slice none 0 0))
    generalize (w1.setCell ⟨w.heap.size + 1, 0, none⟩ (.slice none 0 0)).setCell ⟨w.heap.size + 1, 1, none⟩ (.slice none 0 0) = wf at HXr HBr2 ⊢
    obtain ⟨q0, q1⟩ := pair_cells HXr.out
    have hsf := HBr2.out.size
    exact bodyPost_ret (v := .tuple #[.agg #[.slice none 0 0, .slice none 0 0], .bool false]) (by simp [results, Try.results19, go_sem, q0, q1]) rfl ⟨none, 0, none, 0, w.heap.size, rfl, own_nil _ _ _ _, own_none _ _ _ _, Nat.le_refl _, hsf, HBr2.out, caps_nil⟩
  obtain rfl : R = true := by rw [← HR.out]; exact cut_yes HCa.out HCb.out
  have hy4 : ys.length = 4 := (vec_at HCb.out (d := 0) (by omega)).2.2
  obtain rfl : mv = 4 := by rw [← HLy.out]; exact hy4
  obtain ⟨yb, yo, rfl, -, -⟩ := HY1.out.2 0 (by omega)
  clear hy4
  obtain ⟨a0, a1⟩ := pair_cells HT1.out.fst
  go_wp2
  go_loopw [6, 21] (fun v i wr => ∃ (k : Nat) (vv : Value), k ≤ no ∧ vv = v ∧ i = .int .i64 (k : Int) ∧ Hid (wr.ownsRow w1.heap.size 80 8 v ((l.take k).filter (cutP ys)).length (opCells ((l.take k).filter (cutP ys)))) ∧ Hid (Below w1.heap.size w1 wr) ∧ Hid (((l.take k).filter (cutP ys)).length = 0 → vv = .slice none 0 0)) (fun _ i _ => no - (intOf i).toNat)
  case atStart => exact ⟨0, _, Nat.zero_le _, rfl, rfl, World.ownsRow_nil _ _ _ _, Below.refl _ _, fun _ => rfl⟩
  case round =>
    obtain ⟨k, vv, hk, hvv, rfl, HRw, HBr, HNz⟩ := hrel
    subst hvv
    clear a0 a1
    have hsr := HBr.out.size
    by_cases hlt : k < no
    rotate_left
    · obtain rfl : no = k := by omega
      have HTk : Hid (l.take no = l) := by show _ = _; rw [← HL.out]; exact List.take_length
      rw [HTk.out] at HRw HNz
      have HIt := Lib.hid (cut_items (q := cutP ys) (m := l) (N := 1048576) (fun i hi => HM.out i (by rw [← HL.out]; exact hi)))
      have hlenL : (l.filter (cutP ys)).length ≤ 1048576 := by have := List.length_filter_le (cutP ys) l; have := HL.out; omega
      have HE : Hid (cutOs l ys true = l.filter (cutP ys)) := by show _ = _; rfl
      have HZ : Hid (cutVs xs ys true = zipI min xs ys) := by show _ = _; rfl
      have HZ2 : Hid (vecZip min xs ys = zipI min xs ys) := by show _ = _; exact vecZip_yes (by rw [(cart_true HCa.out).1, HCb.out]; rfl)
      generalize l.filter (cutP ys) = L at HRw HNz HE HIt hlenL
      have HP : Hid (∃ a c, vv = .slice a L.length c ∧ (a = none → c = 0) ∧ (0 < L.length ∨ a = none) ∧ OwnOps wr w1.heap.size wr.heap.size a L.length L) := by
        have hr := HRw.out
        rcases hr.2 with ⟨e, e2⟩ | ⟨g, c, cur, e, r⟩
        · subst e
          rw [e2] at hr ⊢
          exact ⟨none, 0, rfl, fun _ => rfl, .inr rfl, own_of_cells hr (Nat.le_refl _)⟩
        · subst e
          have h0 : 0 < L.length := by
            rcases Nat.eq_zero_or_pos L.length with e0 | e0
            · exact absurd (HNz.out e0) (by intro h; cases h)
            · exact e0
          exact ⟨_, c, rfl, (fun h => by cases h), .inl h0, own_of_cells hr (Nat.le_refl _)⟩
      obtain ⟨ra, rc, rfl, hrc, hr0, hown⟩ := HP.out
      have HOo := Lib.hid hown
      have HRc := Lib.hid hrc
      have HR0 := Lib.hid hr0
      clear hown hrc hr0 HP HRw
      have HTr := Lib.hid (HT1.out.next HBr.out)
      have HVr := Lib.hid (HV1.out.below HBr.out (by omega))
      have HYr := Lib.hid (HY1.out.below HBr.out (by omega))
      obtain ⟨a0, a1⟩ := pair_cells HTr.out.fst
      go_wp2_with fail
      refine (implMin wr B av (some ⟨yb, yo, none⟩) nv cv 4 dv xs ys HVr.out HYr.out (by omega) hv (by omega)).mono ?_
      rintro e w3 ⟨va, vc, rfl, hov, hb3⟩
      rw [HZ2.out] at hov ⊢
      have HOv3 := Lib.hid hov
      have HOo3 := Lib.hid (HOo.out.ops.below hb3 (Nat.le_refl _))
      have HT3 := Lib.hid (HTr.out.next hb3)
      have hs3 := hb3.size
      clear hov hb3 HTr HVr HYr HOo a0 a1
      go_wp2_with fail
      refine (copiedOpsK w3 wr.heap.size ra L.length rc L HOo3.out (by omega) hlenL HRc.out HR0.out HIt.out).mono ?_
      rintro e w5 ⟨oa, oc, rfl, hcaps, hop, hb5⟩
      have HCp := Lib.hid hcaps
      have HOp5 := Lib.hid hop
      have HOv5 := Lib.hid (HOv3.out.below hb5 (Nat.le_refl _))
      have HT5 := Lib.hid (HT3.out.next hb5)
      have hs5 := hb5.size
      clear hcaps hop hb5 HT3 HOo3 HOv3
      obtain ⟨r0, r1⟩ := pair_cells HT5.out.snd
      obtain ⟨fz0, fz1⟩ := pair_frozen HT5.out.snd
      have HXr := Lib.hid (HT5.out.set2 (.slice va (zipI min xs ys).length vc) (.slice oa L.length oc)).1
      have HBr2 := Lib.hid (HT5.out.set2 (.slice va (zipI min xs ys).length vc) (.slice oa L.length oc)).2
      have HOv7 : Hid (Own ((w5.setCell ⟨w.heap.size + 1, 0, none⟩ (.slice va (zipI min xs ys).length vc)).setCell ⟨w.heap.size + 1, 1, none⟩ (.slice oa L.length oc)) wr.heap.size w3.heap.size va (zipI min xs ys).length (zipI min xs ys)) := HOv5.out.kept fun q h1 h2 => pair_other _ _ (by omega)
      have HOp7 : Hid (OwnOps ((w5.setCell ⟨w.heap.size + 1, 0, none⟩ (.slice va (zipI min xs ys).length vc)).setCell ⟨w.heap.size + 1, 1, none⟩ (.slice oa L.length oc)) w3.heap.size w5.heap.size oa L.length L) := HOp5.out.kept fun q h1 h2 => pair_other _ _ (by omega)
      have hsz7 : ((w5.setCell ⟨w.heap.size + 1, 0, none⟩ (.slice va (zipI min xs ys).length vc)).setCell ⟨w.heap.size + 1, 1, none⟩ (.slice oa L.length oc)).heap.size = w5.heap.size := pair_size _ _ _ _
      go_wp2
      change bodyPost _ _ _ _ _ ((w5.setCell ⟨w.heap.size + 1, 0, none⟩ (.slice va (zipI min xs ys).length vc)).setCell ⟨w.heap.size + 1, 1, none⟩ (.slice oa L.length oc))
      generalize (w5.setCell ⟨w.heap.size + 1, 0, none⟩ (.slice va (zipI min xs ys).length vc)).setCell ⟨w.heap.size + 1, 1, none⟩ (.slice oa L.length oc) = wf at HXr HBr2 HOv7 HOp7 hsz7 ⊢
      obtain ⟨q0, q1⟩ := pair_cells HXr.out
      rw [HE.out, HZ.out]
      exact bodyPost_ret (v := .tuple #[.agg #[.slice va (zipI min xs ys).length vc, .slice oa L.length oc], .bool true]) (by simp [results, Try.results19, go_sem, q0, q1]) rfl ⟨va, vc, oa, oc, w3.heap.size, rfl, HOv7.out.more (by omega) (Nat.le_refl _), HOp7.out.more (Nat.le_refl _) (by omega), by omega, by omega, HBr2.out, HCp.out⟩
    have HSt := Lib.hid (filt_step (q := cutP ys) (l := l) (k := k) (by rw [HL.out]; exact hlt))
    have HOr := Lib.hid (HO1.out.below HBr.out (by omega))
    have HYr := Lib.hid (HY1.out.below HBr.out (by omega))
    obtain ⟨b, off, rfl, hb, ho⟩ := HOr.out.2 k hlt
    have HOk : Hid (OpAt wr b (off + k * 8) (atOp l k)) := ho
    have hlen : ((l.take k).filter (cutP ys)).length ≤ 1048576 := by
      have := List.length_filter_le (cutP ys) (l.take k)
      have := List.length_take_le k l
      omega
    have hdev : 0 ≤ (atOp l k).dev ∧ (atOp l k).dev < 4 := by
      obtain ⟨d, hd, _, _, _, e, _⟩ := cart_at HCa.out (i := k) (by rw [HL.out]; exact hlt)
      rw [e]
      omega
    have HYc : Hid (∃ Y, cutP ys (atOp l k) = decide ((atOp l k).seq ≤ Y) ∧ wr.cell? ⟨yb, yo + (atOp l k).dev.toNat, none⟩ = some (.int .i64 Y)) := by
      obtain ⟨b', off', e, _, hcell⟩ := HYr.out.2 (atOp l k).dev.toNat (by omega)
      cases e
      exact ⟨_, rfl, hcell⟩
    obtain ⟨Y, hP, hYc⟩ := HYc.out
    have HPx := Lib.hid hP
    clear ho HOr hP HYc
    generalize (l.take k).filter (cutP ys) = L at HRw HNz HSt hlen
    generalize atOp l k = x at HOk HSt HPx hYc hdev
    obtain ⟨d0, d1, d2, d3, d4, d5, d6, d7⟩ := HOk.out
    have hki : (k : Int) < (no : Int) := by omega
    obtain ⟨hd0, hd4⟩ := hdev
    have hyb := block_lt_of_cell hYc
    go_upto_region 7 with fail
    have hb5 : Below wr.heap.size wr (wr.alloc (.cells #[.int .i64 x.dev, .int .i64 x.seq, .int .i64 x.stamp, .int .i64 x.kind, .string x.item, .int .i64 x.qty, .int .i64 x.level, .int .i64 x.undos] 80)) := (Below.refl _ _).alloc (Nat.le_refl _) _
    have HXo := Lib.hid (boxAt (Below.refl _ (wr.alloc (.cells #[.int .i64 x.dev, .int .i64 x.seq, .int .i64 x.stamp, .int .i64 x.kind, .string x.item, .int .i64 x.qty, .int .i64 x.level, .int .i64 x.undos] 80))))
    have HOw5 := Lib.hid (own_row_kept HRw.out hb5)
    have HY5 : Hid ((wr.alloc (.cells #[.int .i64 x.dev, .int .i64 x.seq, .int .i64 x.stamp, .int .i64 x.kind, .string x.item, .int .i64 x.qty, .int .i64 x.level, .int .i64 x.undos] 80)).cell? ⟨yb, yo + x.dev.toNat, none⟩ = some (.int .i64 Y)) := (hb5.cell hyb).trans hYc
    have HB5 := Lib.hid (HBr.out.trans (hb5.mono (by omega)))
    have hs5 := hb5.size
    generalize wr.alloc (.cells #[.int .i64 x.dev, .int .i64 x.seq, .int .i64 x.stamp, .int .i64 x.kind, .string x.item, .int .i64 x.qty, .int .i64 x.level, .int .i64 x.undos] 80) = w5 at hb5 HXo HOw5 HY5 HB5 hs5 ⊢
    generalize wr.heap.size = ob at HXo hs5 hsr ⊢
    clear hb5 HRw HYr HOk d0 d1 d2 d3 d4 d5 d6 d7 HBr hYc hyb
    have hobl := lt_of_row HXo.out
    obtain ⟨d0, d1, d2, d3, d4, d5, d6, d7⟩ := op_cells HXo.out
    have hyc := HY5.out
    have hd00 : ¬ (x.dev < 0) := by omega
    have hd0d : decide (x.dev < 0) = false := decide_eq_false (by omega)
    have hd4n : x.dev.toNat < 4 := by omega
    have hS : w5.drew.cell? ⟨ob, 0, none⟩ = some (.int .i64 x.dev) ∧ w5.drew.cell? ⟨ob, 1, none⟩ = some (.int .i64 x.seq) ∧ w5.drew.cell? ⟨yb, yo + x.dev.toNat, none⟩ = some (.int .i64 Y) := ⟨d0, d1, hyc⟩
    go_wp2_with fail
    refine wp_region_held_drew (S := fun w' => w'.cell? ⟨ob, 0, none⟩ = some (.int .i64 x.dev) ∧ w'.cell? ⟨ob, 1, none⟩ = some (.int .i64 x.seq) ∧ w'.cell? ⟨yb, yo + x.dev.toNat, none⟩ = some (.int .i64 Y)) (by kernel_rfl) hS (fun hHeld => ?_)
    refine wpAnyH_take (i := 0) (oi := { dst := some 25, op := .fieldAddr 80 (.tmp 8) 1, type := 0, pos := "l13_stable.go:74", after := #[], guard := none }) (v := ?_) rfl (by kernel_rfl) (by kernel_rfl) (by kernel_rfl) (fun _ _ _ h => h) (Or.inl ⟨by rfl, ?_⟩) (by assumption) ?_
    rotate_left
    · intro w hSw
      (try dsimp only at hSw)
      first | (go_simp; done) | (go_simp; with_reducible rfl)
    (try simp only [Act.put, List.setIfInBounds_toArray, List.set_cons_zero, List.set_cons_succ])
    refine wpAnyH_take (i := 1) (oi := { dst := some 26, op := .load 2 (.tmp 25), type := 2, pos := "l13_stable.go:74", after := #[⟨0, .data⟩], guard := none }) (v := ?_) rfl (by kernel_rfl) (by kernel_rfl) (by kernel_rfl) (fun _ _ _ h => h) (Or.inl ⟨by rfl, ?_⟩) (by assumption) ?_
    rotate_left
    · intro w hSw
      (try dsimp only at hSw)
      first | (go_simp; done) | (go_simp; with_reducible rfl)
    (try simp only [Act.put, List.setIfInBounds_toArray, List.set_cons_zero, List.set_cons_succ])
    refine wpAnyH_take (i := 2) (oi := { dst := some 27, op := .move (.tmp 1), type := 28, pos := "l13_stable.go:74", after := #[], guard := none }) (v := ?_) rfl (by kernel_rfl) (by kernel_rfl) (by kernel_rfl) (fun _ _ _ h => h) (Or.inl ⟨by rfl, ?_⟩) (by assumption) ?_
    rotate_left
    · intro w hSw
      (try dsimp only at hSw)
      first | (go_simp; done) | (go_simp; with_reducible rfl)
    (try simp only [Act.put, List.setIfInBounds_toArray, List.set_cons_zero, List.set_cons_succ])
    refine wpAnyH_take (i := 3) (oi := { dst := some 28, op := .fieldAddr 80 (.tmp 8) 0, type := 0, pos := "l13_stable.go:74", after := #[], guard := none }) (v := ?_) rfl (by kernel_rfl) (by kernel_rfl) (by kernel_rfl) (fun _ _ _ h => h) (Or.inl ⟨by rfl, ?_⟩) (by assumption) ?_
    rotate_left
    · intro w hSw
      (try dsimp only at hSw)
      first | (go_simp; done) | (go_simp; with_reducible rfl)
    (try simp only [Act.put, List.setIfInBounds_toArray, List.set_cons_zero, List.set_cons_succ])
    refine wpAnyH_take (i := 4) (oi := { dst := some 29, op := .load 2 (.tmp 28), type := 2, pos := "l13_stable.go:74", after := #[⟨3, .data⟩], guard := none }) (v := ?_) rfl (by kernel_rfl) (by kernel_rfl) (by kernel_rfl) (fun _ _ _ h => h) (Or.inl ⟨by rfl, ?_⟩) (by assumption) ?_
    rotate_left
    · intro w hSw
      (try dsimp only at hSw)
      first | (go_simp; done) | (go_simp; with_reducible rfl)
    (try simp only [Act.put, List.setIfInBounds_toArray, List.set_cons_zero, List.set_cons_succ])
    refine wpAnyH_take (i := 5) (oi := { dst := some 30, op := .indexAddr 28 (.tmp 27) (.tmp 29), type := 0, pos := "l13_stable.go:74", after := #[⟨2, .data⟩, ⟨4, .data⟩], guard := none }) (v := ?_) rfl (by kernel_rfl) (by kernel_rfl) (by kernel_rfl) (fun _ _ _ h => h) (Or.inl ⟨by rfl, ?_⟩) (by assumption) ?_
    rotate_left
    · intro w hSw
      (try dsimp only at hSw)
      first | (go_simp; done) | (go_simp; with_reducible rfl)
    (try simp only [Act.put, List.setIfInBounds_toArray, List.set_cons_zero, List.set_cons_succ])
    refine wpAnyH_take (i := 6) (oi := { dst := some 31, op := .load 2 (.tmp 30), type := 2, pos := "l13_stable.go:74", after := #[⟨5, .data⟩], guard := none }) (v := ?_) rfl (by kernel_rfl) (by kernel_rfl) (by kernel_rfl) (fun _ _ _ h => h) (Or.inl ⟨by rfl, ?_⟩) (by assumption) ?_
    rotate_left
    · intro w hSw
      (try dsimp only at hSw)
      first | (go_simp; done) | (go_simp; with_reducible rfl)
    (try simp only [Act.put, List.setIfInBounds_toArray, List.set_cons_zero, List.set_cons_succ])
    refine wpAnyH_take (i := 7) (oi := { dst := some 32, op := .binOp .leq 2 (.tmp 26) (.tmp 31) 2, type := 4, pos := "l13_stable.go:74", after := #[⟨1, .data⟩, ⟨6, .data⟩], guard := none }) (v := ?_) rfl (by kernel_rfl) (by kernel_rfl) (by kernel_rfl) (fun _ _ _ h => h) (Or.inl ⟨by rfl, ?_⟩) (by assumption) ?_
    rotate_left
    · intro w hSw
      (try dsimp only at hSw)
      first | (go_simp; done) | (go_simp; with_reducible rfl)
    (try simp only [Act.put, List.setIfInBounds_toArray, List.set_cons_zero, List.set_cons_succ])
    refine wpAnyH_done (by kernel_rfl) ?_ _
    clear hS hHeld hyc HY5
    have HOw6 : Hid (w5.drew.ownsRow w1.heap.size 80 8 vv L.length (opCells L)) := HOw5.out.drew
    have HXo6 : Hid (w5.drew.heap[ob]? = some (.cells #[.int .i64 x.dev, .int .i64 x.seq, .int .i64 x.stamp, .int .i64 x.kind, .string x.item, .int .i64 x.qty, .int .i64 x.level, .int .i64 x.undos] 80 (0, 0))) := HXo.out
    have HB6 : Hid (Below w1.heap.size w1 w5.drew) := HB5.out.drew
    have hs6 : ob ≤ w5.drew.heap.size := hs5
    clear d0 d1 d2 d3 d4 d5 d6 d7 HOw5 HXo HB5 hs5 hobl
    generalize w5.drew = w6 at HOw6 HXo6 HB6 hs6 ⊢
    obtain ⟨d0, d1, d2, d3, d4, d5, d6, d7⟩ := op_cells HXo6.out
    obtain ⟨tb, htb⟩ : ∃ b, decide (x.seq ≤ Y) = b := ⟨_, rfl⟩
    rw [htb] at HPx
    have HTb := Lib.hid htb
    clear htb
    cases tb
    · have HE : Hid ((l.take (k + 1)).filter (cutP ys) = L) := by show _ = _; rw [HSt.out, HPx.out]; rfl
      have hdt := HTb.out
      have hnl : ¬ x.seq ≤ Y := of_decide_eq_false hdt
      have HRe := HOw6
      have HNe := HNz
      rw [← HE.out] at HRe HNe
      go_wp2
      go_roundw
      case rel => exact ⟨k + 1, _, by omega, rfl, by go_num, HRe, HB6, HNe⟩
      case measure => simp [intOf]; omega
    have HE : Hid ((l.take (k + 1)).filter (cutP ys) = L ++ [x]) := by show _ = _; rw [HSt.out, HPx.out]; rfl
    have hdt := HTb.out
    have hyl : x.seq ≤ Y := of_decide_eq_true hdt
    have hsw : w1.heap.size ≤ w6.heap.size := HB6.out.size
    obtain ⟨i0, hi0', hz0, hz1, hz2⟩ := info_parts Try.infoOp
    have hown1 := HOw6.out.alloc (.cells #[.int .i64 x.dev, .int .i64 x.seq, .int .i64 x.stamp, .int .i64 x.kind, .string x.item, .int .i64 x.qty, .int .i64 x.level, .int .i64 x.undos] 80)
    go_wp2_with (at_builtin; refine wpList_append_own _ rfl _ _ 29 rfl w1.heap.size 80 i0 (.agg #[.int .i64 0, .int .i64 0, .int .i64 0, .int .i64 0, .string ⟨#[]⟩, .int .i64 0, .int .i64 0, .int .i64 0]) 8 72 Try.underlying29 hi0' hz0 hz1 hz2 rfl (by decide) _ _ _ rfl hown1 ⟨w6.heap.size, 0, none⟩ 1 1 (opRow x) rfl ?c0 ?c1 ?c2 ?c3 ?c4 ?c5 ?_)
    case c0 => rfl
    case c1 => exact opRow_new w6 x
    case c2 =>
      intro u hu
      exact opCells_one [x] u (by show u ∈ opRow x ++ []; rw [List.append_nil]; exact hu)
    case c3 => unfold maxLen; omega
    case c4 => omega
    case c5 => simp; omega
    intro v' z3 hown2 hgrow _
    have HB2 := Lib.hid ((HB6.out.alloc (by omega) (.cells #[.int .i64 x.dev, .int .i64 x.seq, .int .i64 x.stamp, .int .i64 x.kind, .string x.item, .int .i64 x.qty, .int .i64 x.level, .int .i64 x.undos] 80)).grown hgrow (by simp; omega) (fun j hj => (hown1.lt j hj).1))
    have HR2 : Hid (z3.ownsRow w1.heap.size 80 8 v' ((l.take (k + 1)).filter (cutP ys)).length (opCells ((l.take (k + 1)).filter (cutP ys)))) := by
      show World.ownsRow _ _ _ _ _ _ _
      rw [HE.out, opCells_snoc, List.length_append]
      exact hown2
    have HN2 : Hid (((l.take (k + 1)).filter (cutP ys)).length = 0 → v' = .slice none 0 0) := fun h => by
      rw [HE.out, List.length_append] at h
      exact absurd h (by simp)
    clear hown2 hgrow hown1 HOw6 d0 d1 d2 d3 d4 d5 d6 d7
    go_wp2
    go_roundw
    case rel => exact ⟨k + 1, _, by omega, rfl, by go_num, HR2, HB2, HN2⟩
    case measure => simp [intOf]; omega
end Go.Proofs.Ytejhmakfbmhhhaa

namespace Go.Proofs.Ytejhmakfbmhhhaa
open Go.RowKit

/-- A cart that the call hands back, as it is read, and a flag. -/
def ReadPost (ok : Bool) (zs : List Int) (L : List OpV) (w : World) (e : Ending) (w' : World) : Prop := ∃ va vc oa oc, e = .returned (.tuple #[.agg #[.slice va zs.length vc, .slice oa L.length oc], .bool ok]) ∧ Own w' w.heap.size w'.heap.size va zs.length zs ∧ OwnOps w' w.heap.size w'.heap.size oa L.length L ∧ Below w.heap.size w w'
theorem own_nilS (w : World) (lo hi : Nat) (a : Option Addr) : Own w lo hi a 0 [] := ⟨rfl, fun h => absurd h (by omega)⟩
theorem opwp_append {P : Program} {o : Oper} {a : Act} {w : World} {K : Act → World → Prop} {Q : Exit → Act → World → Prop} (x y : Operand) (ts : Array TypeId) (hop : o.op = Op.call { callee := Callee.builtin Builtin.append, args := #[x, y], argTypes := ts }) (v1 v2 : Value) {v' : Value} {w' : World} (h1 : a.eval x = v1) (h2 : a.eval y = v2)
    (hrun : (Builtin.append_ ts o.type #[v1, v2]).run P w = .ok v' w') (hK : K (a.put o.dst v') w') : Oper.wp P o a w K Q := by
  unfold Oper.wp
  simp [execOp, hop, resolve, invoke, builtin, h1, h2, hrun, Result.andThen]
  exact hK
end Go.Proofs.Ytejhmakfbmhhhaa

namespace Go.Proofs.Ytejhmakfbmhhhaa
open Go.RowKit

def OutC (ob : Nat) (v : Value) (L : List OpV) (w2 wr : World) : Prop :=
  ∃ oa oc, wr.heap[ob]? = some (.cells #[v, .slice oa L.length oc] 31 (0, 0)) ∧ wr.ownsRow (ob + 1) 80 8 (.slice oa L.length oc) L.length (opCells L) ∧ Below ob w2 wr
theorem OutC.drew {ob : Nat} {v : Value} {L : List OpV} {w2 wr : World} (h : OutC ob v L w2 wr) : OutC ob v L w2 wr.drew := by
  obtain ⟨oa, oc, h1, h2, h3⟩ := h
  exact ⟨oa, oc, h1, h2.drew, ⟨h3.os, h3.tape, h3.output, h3.size, h3.block⟩⟩
theorem zip4 {xs ys : List Int} (h : vecOk xs = true) (h2 : vecOk ys = true) : (zipI min xs ys).length = 4 := by
  obtain ⟨x0, x1, x2, x3, rfl⟩ := four h
  obtain ⟨y0, y1, y2, y3, rfl⟩ := four h2
  rfl
set_option linter.unusedSimpArgs false in
set_option maxRecDepth 100000 in
set_option maxHeartbeats 80000000 in
theorem specCut (w : World) (B : Nat) (av ao bv : Option Addr) (nv cv no co mv dv : Nat) (xs : List Int) (l : List OpV) (ys : List Int) (hx : Ints w B av nv xs) (h : Ops w B ao no l) (hy : Ints w B bv mv ys) (hB : B ≤ w.heap.size) (hv : nv ≤ 1048576) (hn : no ≤ 1048576) (hm : ∀ i, i < no → (atOp l i).item.size ≤ 1048576) (hv2 : mv ≤ 1048576) :
    Calls Try.prog 22 #[.agg #[.slice av nv cv, .slice ao no co], .slice bv mv dv] w (ReadPost (cutB xs l ys) (cutVs xs ys (cutB xs l ys)) (cutOs l ys (cutB xs l ys)) w) := by
  obtain ⟨i0, hi, hz0, hz1, hz2⟩ := info_parts Try.infoOp
  have hT := Two.mk0 w #[.slice av nv cv, .slice ao no co] #[.slice none 0 0, .slice none 0 0] 31
  have HV := Lib.hid (hx.below hT.bel hB)
  have HO := Lib.hid (h.below hT.bel hB)
  have HY := Lib.hid (hy.below hT.bel hB)
  have HT := Lib.hid hT
  have HL := Lib.hid h.1
  have HLx := Lib.hid hx.1
  have HLy := Lib.hid hy.1
  have HM := Lib.hid hm
  have hBw := hB
  obtain ⟨R, hR⟩ : ∃ R, cutB xs l ys = R := ⟨_, rfl⟩
  have HR := Lib.hid hR
  clear hx h hy hT hm hB
  rw [hR]
  clear hR
  go_enter Try.func22, Try.ntmps22
  go_wp2_with fail
  generalize (w.alloc (.cells #[.slice av nv cv, .slice ao no co] 31)).alloc (.cells #[.slice none 0 0, .slice none 0 0] 31) = w0 at HV HO HY HT ⊢
  have hsz0 := HT.out.bel.size
  have hsz1 := lt_of_row HT.out.snd
  refine (specCartOk w0 B av ao nv cv no co xs l HV.out HO.out (by omega) hv hn HM.out).mono ?_
  rintro e w1 ⟨rfl, hb⟩
  have HV1 := Lib.hid (HV.out.below hb (by omega))
  have HO1 := Lib.hid (HO.out.below hb (by omega))
  have HY1 := Lib.hid (HY.out.below hb (by omega))
  have HT1 := Lib.hid (HT.out.next hb)
  have hs1 := hb.size
  clear hb HV HO HY HT
  obtain ⟨ca, hca⟩ : ∃ b, cartB xs l = b := ⟨_, rfl⟩
  have HCa := Lib.hid hca
  rw [hca]
  clear hca
  cases ca
  · skip
    obtain rfl : R = false := by rw [← HR.out]; exact cut_no HCa.out
    obtain ⟨r0, r1⟩ := pair_cells HT1.out.snd
    obtain ⟨fz0, fz1⟩ := pair_frozen HT1.out.snd
    have HXr := Lib.hid (HT1.out.set2 (.slice none 0 0) (.slice none 0 0)).1
    have HBr2 := Lib.hid (HT1.out.set2 (.slice none 0 0) (.slice none 0 0)).2
    go_wp2
    change bodyPost _ _ _ _ _ ((w1.setCell ⟨w.heap.size + 1, 0, none⟩ (.slice none 0 0)).setCell ⟨w.heap.size + 1, 1, none⟩ (.slice none 0 0))
    generalize (w1.setCell ⟨w.heap.size + 1, 0, none⟩ (.slice none 0 0)).setCell ⟨w.heap.size + 1, 1, none⟩ (.slice none 0 0) = wf at HXr HBr2 ⊢
    obtain ⟨q0, q1⟩ := pair_cells HXr.out
    exact bodyPost_ret (v := .tuple #[.agg #[.slice none 0 0, .slice none 0 0], .bool false]) (by simp [results, Try.results22, go_sem, q0, q1]) rfl ⟨none, 0, none, 0, rfl, own_nilS _ _ _ _, own_none _ _ _ _, HBr2.out⟩
  go_wp2_with fail
  refine (specVecOk w1 B bv mv dv ys HY1.out hv2).mono ?_
  rintro e w2 ⟨rfl, rfl⟩
  obtain ⟨cb, hcb⟩ : ∃ b, vecOk ys = b := ⟨_, rfl⟩
  have HCb := Lib.hid hcb
  rw [hcb]
  clear hcb
  cases cb
  · skip
    obtain rfl : R = false := by rw [← HR.out]; exact cut_no2 HCb.out
    obtain ⟨r0, r1⟩ := pair_cells HT1.out.snd
    obtain ⟨fz0, fz1⟩ := pair_frozen HT1.out.snd
    have HXr := Lib.hid (HT1.out.set2 (.slice none 0 0) (.slice none 0 0)).1
    have HBr2 := Lib.hid (HT1.out.set2 (.slice none 0 0) (.slice none 0 0)).2
    go_wp2
    change bodyPost _ _ _ _ _ ((w1.setCell ⟨w.heap.size + 1, 0, none⟩ (.slice none 0 0)).setCell ⟨w.heap.size + 1, 1, none⟩ (.slice none 0 0))
    generalize (w1.setCell ⟨w.heap.size + 1, 0, none⟩ (.slice none 0 0)).setCell ⟨w.heap.size + 1, 1, none⟩ (.slice none 0 0) = wf at HXr HBr2 ⊢
    obtain ⟨q0, q1⟩ := pair_cells HXr.out
    exact bodyPost_ret (v := .tuple #[.agg #[.slice none 0 0, .slice none 0 0], .bool false]) (by simp [results, Try.results22, go_sem, q0, q1]) rfl ⟨none, 0, none, 0, rfl, own_nilS _ _ _ _, own_none _ _ _ _, HBr2.out⟩
  obtain rfl : R = true := by rw [← HR.out]; exact cut_yes HCa.out HCb.out
  have hy4 : ys.length = 4 := (vec_at HCb.out (d := 0) (by omega)).2.2
  obtain rfl : mv = 4 := by rw [← HLy.out]; exact hy4
  obtain ⟨yb, yo, rfl, -, -⟩ := HY1.out.2 0 (by omega)
  clear hy4
  have HZ : Hid (cutVs xs ys true = zipI min xs ys) := by show _ = _; rfl
  have HZ2 : Hid (vecZip min xs ys = zipI min xs ys) := by show _ = _; exact vecZip_yes (by rw [(cart_true HCa.out).1, HCb.out]; rfl)
  have HZ4 : Hid ((zipI min xs ys).length = 4) := zip4 (cart_true HCa.out).1 HCb.out
  obtain ⟨a0, a1⟩ := pair_cells HT1.out.fst
  go_wp2_with fail
  refine (specMin w1 B B av (some ⟨yb, yo, none⟩) nv cv 4 dv xs ys HV1.out HY1.out (by omega) (by omega) hv (by omega)).mono ?_
  rintro e w2 ⟨va, zc, rfl, hov, hb2⟩
  rw [HZ2.out, HZ4.out] at hov
  rw [HZ2.out, HZ4.out]
  have HO2 := Lib.hid (HO1.out.below hb2 (by omega))
  have HY2 := Lib.hid (HY1.out.below hb2 (by omega))
  have HT2 := Lib.hid (HT1.out.next hb2)
  have HOv2 := Lib.hid hov
  have hs2 := hb2.size
  obtain ⟨vb, vo, rfl, -, -⟩ := hov.ints.2 0 (by omega)
  clear hov hb2 HV1 HO1 HY1 HT1 a0 a1
  go_upto_region 4 with fail
  have hb3 : Below w2.heap.size w2 (w2.alloc (.cells #[.slice (some ⟨vb, vo, none⟩) 4 zc, .slice none 0 0] 31)) := (Below.refl _ _).alloc (Nat.le_refl _) _
  have HX2 := Lib.hid (boxAt (Below.refl _ (w2.alloc (.cells #[.slice (some ⟨vb, vo, none⟩) 4 zc, .slice none 0 0] 31))))
  have HO3 := Lib.hid (HO2.out.below hb3 (by omega))
  have HY3 := Lib.hid (HY2.out.below hb3 (by omega))
  have HT3 := Lib.hid (HT2.out.next hb3)
  have HOv3 := Lib.hid (HOv2.out.below hb3 (Nat.le_refl _))
  generalize w2.alloc (.cells #[.slice (some ⟨vb, vo, none⟩) 4 zc, .slice none 0 0] 31) = w3 at hb3 HX2 HO3 HY3 HT3 HOv3 ⊢
  have hs3 := hb3.size
  have hx2 := lt_of_row HX2.out
  generalize hob : w2.heap.size = ob at HX2 hs3 hx2 hs2 HOv3 ⊢
  clear hb3 HO2 HY2 HT2 HOv2 hob
  have HOut : Hid (OutC ob (.slice (some ⟨vb, vo, none⟩) 4 zc) ((l.take 0).filter (cutP ys)) w3 w3) := ⟨none, 0, HX2.out, ⟨rfl, .inl ⟨rfl, rfl⟩⟩, Below.refl _ _⟩
  go_wp2
  go_loopw [7] (fun i wr => ∃ k : Nat, k ≤ no ∧ i = .int .i64 (k : Int) ∧ Hid (OutC ob (.slice (some ⟨vb, vo, none⟩) 4 zc) ((l.take k).filter (cutP ys)) w3 wr)) (fun i _ => no - (intOf i).toNat)
  case atStart => exact ⟨0, Nat.zero_le _, rfl, HOut⟩
  case round =>
    obtain ⟨k, hk, rfl, HOu⟩ := hrel
    clear HOut HX2
    obtain ⟨oa, oc, hbox, hrow, hbel⟩ := HOu.out
    have HOB := Lib.hid hbox
    have HROW := Lib.hid hrow
    have HBL := Lib.hid hbel
    have hobl := lt_of_row hbox
    have HTr : Hid (wr.heap[w.heap.size]? = some (.cells #[.slice av nv cv, .slice ao no co] 31 (0, 0)) ∧ wr.heap[w.heap.size + 1]? = some (.cells #[.slice none 0 0, .slice none 0 0] 31 (0, 0))) := ⟨(hbel.block _ (by omega)).trans HT3.out.fst, (hbel.block _ (by omega)).trans HT3.out.snd⟩
    have HOr := Lib.hid (HO3.out.below hbel (by omega))
    have HYr := Lib.hid (HY3.out.below hbel (by omega))
    have hsr := hbel.size
    obtain ⟨a0, a1⟩ := pair_cells HTr.out.1
    by_cases hlt : k < no
    rotate_left
    · obtain rfl : no = k := by omega
      have HTk : Hid (l.take no = l) := by show _ = _; rw [← HL.out]; exact List.take_length
      rw [HTk.out] at HOB HROW
      have HZr := Lib.hid (HOv3.out.below hbel (Nat.le_refl _))
      have HBw : Hid (Below w.heap.size w wr) := HT3.out.bel.trans (hbel.mono (by omega))
      have HE : Hid (cutOs l ys true = l.filter (cutP ys)) := by show _ = _; rfl
      clear hbox hrow hbel HOu
      generalize l.filter (cutP ys) = L at HOB HROW HE
      generalize zipI min xs ys = zs at HZ HZ4 HZr
      have HP : Hid (OwnOps wr (ob + 1) wr.heap.size oa L.length L) := own_of_cells HROW.out (Nat.le_refl _)
      obtain ⟨x0, x1⟩ := pair_cells HOB.out
      obtain ⟨r0, r1⟩ := pair_cells HTr.out.2
      obtain ⟨fz0, fz1⟩ := pair_frozen HTr.out.2
      have HTw : Hid (Two w wr #[.slice av nv cv, .slice ao no co] #[.slice none 0 0, .slice none 0 0] 31) := ⟨HTr.out.1, HTr.out.2, HBw.out⟩
      have HXr := Lib.hid (HTw.out.set2 (.slice (some ⟨vb, vo, none⟩) 4 zc) (.slice oa L.length oc)).1
      have HBr2 := Lib.hid (HTw.out.set2 (.slice (some ⟨vb, vo, none⟩) 4 zc) (.slice oa L.length oc)).2
      have HsM : Hid (wr.heap.size = ((wr.setCell ⟨w.heap.size + 1, 0, none⟩ (.slice (some ⟨vb, vo, none⟩) 4 zc)).setCell ⟨w.heap.size + 1, 1, none⟩ (.slice oa L.length oc)).heap.size) := (pair_size _ _ _ _).symm
      have HZ6 : Hid (Own ((wr.setCell ⟨w.heap.size + 1, 0, none⟩ (.slice (some ⟨vb, vo, none⟩) 4 zc)).setCell ⟨w.heap.size + 1, 1, none⟩ (.slice oa L.length oc)) w1.heap.size ob (some ⟨vb, vo, none⟩) 4 zs) := HZr.out.kept fun j h1 h2 => pair_other _ _ (by omega)
      have HO6 : Hid (OwnOps ((wr.setCell ⟨w.heap.size + 1, 0, none⟩ (.slice (some ⟨vb, vo, none⟩) 4 zc)).setCell ⟨w.heap.size + 1, 1, none⟩ (.slice oa L.length oc)) (ob + 1) wr.heap.size oa L.length L) := HP.out.kept fun j h1 h2 => pair_other _ _ (by omega)
      clear HROW HOB HBL HTw HBw
      go_wp2
      change bodyPost _ _ _ _ _ ((wr.setCell ⟨w.heap.size + 1, 0, none⟩ (.slice (some ⟨vb, vo, none⟩) 4 zc)).setCell ⟨w.heap.size + 1, 1, none⟩ (.slice oa L.length oc))
      generalize (wr.setCell ⟨w.heap.size + 1, 0, none⟩ (.slice (some ⟨vb, vo, none⟩) 4 zc)).setCell ⟨w.heap.size + 1, 1, none⟩ (.slice oa L.length oc) = wf at HXr HBr2 HZ6 HO6 HsM ⊢
      obtain ⟨q0, q1⟩ := pair_cells HXr.out
      have hsm := HsM.out
      exact bodyPost_ret (v := .tuple #[.agg #[.slice (some ⟨vb, vo, none⟩) 4 zc, .slice oa L.length oc], .bool true]) (by simp [results, Try.results22, go_sem, q0, q1]) rfl ⟨some ⟨vb, vo, none⟩, zc, oa, oc, by rw [HZ.out, HZ4.out, HE.out], by rw [HZ.out, HZ4.out]; exact HZ6.out.more (by omega) (by omega), by rw [HE.out]; exact HO6.out.more (by omega) (by omega), HBr2.out⟩
    clear hbox hrow hbel HOu
    have HSt := Lib.hid (filt_step (q := cutP ys) (l := l) (k := k) (by rw [HL.out]; exact hlt))
    obtain ⟨b, off, rfl, hb, ho⟩ := HOr.out.2 k hlt
    have HOk : Hid (OpAt wr b (off + k * 8) (atOp l k)) := ho
    have hlen : ((l.take k).filter (cutP ys)).length ≤ 1048576 := by
      have := List.length_filter_le (cutP ys) (l.take k)
      have := List.length_take_le k l
      omega
    have hdev : 0 ≤ (atOp l k).dev ∧ (atOp l k).dev < 4 := by
      obtain ⟨d, hd, _, _, _, e, _⟩ := cart_at HCa.out (i := k) (by rw [HL.out]; exact hlt)
      rw [e]
      omega
    have HYc : Hid (∃ Y, cutP ys (atOp l k) = decide ((atOp l k).seq ≤ Y) ∧ wr.cell? ⟨yb, yo + (atOp l k).dev.toNat, none⟩ = some (.int .i64 Y)) := by
      obtain ⟨b', off', e, _, hcell⟩ := HYr.out.2 (atOp l k).dev.toNat (by omega)
      cases e
      exact ⟨_, rfl, hcell⟩
    obtain ⟨Y, hP, hYc⟩ := HYc.out
    have HPx := Lib.hid hP
    clear ho HOr hP HYc
    generalize (l.take k).filter (cutP ys) = L at HOB HROW HSt hlen
    generalize atOp l k = x at HOk HSt HPx hYc hdev
    obtain ⟨d0, d1, d2, d3, d4, d5, d6, d7⟩ := HOk.out
    have hki : (k : Int) < (no : Int) := by omega
    obtain ⟨hd0, hd4⟩ := hdev
    have hd00 : ¬ (x.dev < 0) := by omega
    have hd0d : decide (x.dev < 0) = false := decide_eq_false (by omega)
    have hd4n : x.dev.toNat < 4 := by omega
    have hS : wr.drew.cell? ⟨w.heap.size, 1, none⟩ = some (.slice (some ⟨b, off, none⟩) no co) ∧ wr.drew.cell? ⟨b, off + k * 8, none⟩ = some (.int .i64 x.dev) ∧ wr.drew.cell? ⟨b, off + k * 8 + 1, none⟩ = some (.int .i64 x.seq) ∧ wr.drew.cell? ⟨yb, yo + x.dev.toNat, none⟩ = some (.int .i64 Y) := ⟨a1, d0, d1, hYc⟩
    go_wp2_with fail
    refine wp_region_held_drew (S := fun w' => w'.cell? ⟨w.heap.size, 1, none⟩ = some (.slice (some ⟨b, off, none⟩) no co) ∧ w'.cell? ⟨b, off + k * 8, none⟩ = some (.int .i64 x.dev) ∧ w'.cell? ⟨b, off + k * 8 + 1, none⟩ = some (.int .i64 x.seq) ∧ w'.cell? ⟨yb, yo + x.dev.toNat, none⟩ = some (.int .i64 Y)) (by kernel_rfl) hS (fun hHeld => ?_)
    refine wpAnyH_take (i := 0) (oi := { dst := some 29, op := .fieldAddr 31 (.tmp 2) 1, type := 0, pos := "l13_stable.go:54", after := #[], guard := none }) (v := ?_) rfl (by kernel_rfl) (by kernel_rfl) (by kernel_rfl) (fun _ _ _ h => h) (Or.inl ⟨by rfl, ?_⟩) (by assumption) ?_
    rotate_left
    · intro w hSw
      (try dsimp only at hSw)
      first | (go_simp; done) | (go_simp; with_reducible rfl)
    (try simp only [Act.put, List.setIfInBounds_toArray, List.set_cons_zero, List.set_cons_succ])
    refine wpAnyH_take (i := 1) (oi := { dst := some 30, op := .load 29 (.tmp 29), type := 29, pos := "l13_stable.go:54", after := #[⟨0, .data⟩], guard := none }) (v := ?_) rfl (by kernel_rfl) (by kernel_rfl) (by kernel_rfl) (fun _ _ _ h => h) (Or.inl ⟨by rfl, ?_⟩) (by assumption) ?_
    rotate_left
    · intro w hSw
      (try dsimp only at hSw)
      first | (go_simp; done) | (go_simp; with_reducible rfl)
    (try simp only [Act.put, List.setIfInBounds_toArray, List.set_cons_zero, List.set_cons_succ])
    refine wpAnyH_take (i := 2) (oi := { dst := some 31, op := .move (.tmp 7), type := 3, pos := "l13_stable.go:54", after := #[], guard := none }) (v := ?_) rfl (by kernel_rfl) (by kernel_rfl) (by kernel_rfl) (fun _ _ _ h => h) (Or.inl ⟨by rfl, ?_⟩) (by assumption) ?_
    rotate_left
    · intro w hSw
      (try dsimp only at hSw)
      first | (go_simp; done) | (go_simp; with_reducible rfl)
    (try simp only [Act.put, List.setIfInBounds_toArray, List.set_cons_zero, List.set_cons_succ])
    refine wpAnyH_take (i := 3) (oi := { dst := some 32, op := .indexAddr 29 (.tmp 30) (.tmp 31), type := 0, pos := "l13_stable.go:54", after := #[⟨1, .data⟩, ⟨2, .data⟩], guard := none }) (v := ?_) rfl (by kernel_rfl) (by kernel_rfl) (by kernel_rfl) (fun _ _ _ h => h) (Or.inl ⟨by rfl, ?_⟩) (by assumption) ?_
    rotate_left
    · intro w hSw
      (try dsimp only at hSw)
      first | (go_simp; done) | (go_simp; with_reducible rfl)
    (try simp only [Act.put, List.setIfInBounds_toArray, List.set_cons_zero, List.set_cons_succ])
    refine wpAnyH_take (i := 4) (oi := { dst := some 33, op := .fieldAddr 80 (.tmp 32) 1, type := 0, pos := "l13_stable.go:54", after := #[⟨3, .data⟩], guard := none }) (v := ?_) rfl (by kernel_rfl) (by kernel_rfl) (by kernel_rfl) (fun _ _ _ h => h) (Or.inl ⟨by rfl, ?_⟩) (by assumption) ?_
    rotate_left
    · intro w hSw
      (try dsimp only at hSw)
      first | (go_simp; done) | (go_simp; with_reducible rfl)
    (try simp only [Act.put, List.setIfInBounds_toArray, List.set_cons_zero, List.set_cons_succ])
    refine wpAnyH_take (i := 5) (oi := { dst := some 34, op := .load 2 (.tmp 33), type := 2, pos := "l13_stable.go:54", after := #[⟨4, .data⟩], guard := none }) (v := ?_) rfl (by kernel_rfl) (by kernel_rfl) (by kernel_rfl) (fun _ _ _ h => h) (Or.inl ⟨by rfl, ?_⟩) (by assumption) ?_
    rotate_left
    · intro w hSw
      (try dsimp only at hSw)
      first | (go_simp; done) | (go_simp; with_reducible rfl)
    (try simp only [Act.put, List.setIfInBounds_toArray, List.set_cons_zero, List.set_cons_succ])
    refine wpAnyH_take (i := 6) (oi := { dst := some 35, op := .move (.tmp 1), type := 28, pos := "l13_stable.go:54", after := #[], guard := none }) (v := ?_) rfl (by kernel_rfl) (by kernel_rfl) (by kernel_rfl) (fun _ _ _ h => h) (Or.inl ⟨by rfl, ?_⟩) (by assumption) ?_
    rotate_left
    · intro w hSw
      (try dsimp only at hSw)
      first | (go_simp; done) | (go_simp; with_reducible rfl)
    (try simp only [Act.put, List.setIfInBounds_toArray, List.set_cons_zero, List.set_cons_succ])
    refine wpAnyH_take (i := 7) (oi := { dst := some 36, op := .fieldAddr 31 (.tmp 2) 1, type := 0, pos := "l13_stable.go:54", after := #[], guard := none }) (v := ?_) rfl (by kernel_rfl) (by kernel_rfl) (by kernel_rfl) (fun _ _ _ h => h) (Or.inl ⟨by rfl, ?_⟩) (by assumption) ?_
    rotate_left
    · intro w hSw
      (try dsimp only at hSw)
      first | (go_simp; done) | (go_simp; with_reducible rfl)
    (try simp only [Act.put, List.setIfInBounds_toArray, List.set_cons_zero, List.set_cons_succ])
    refine wpAnyH_take (i := 8) (oi := { dst := some 37, op := .load 29 (.tmp 36), type := 29, pos := "l13_stable.go:54", after := #[⟨7, .data⟩], guard := none }) (v := ?_) rfl (by kernel_rfl) (by kernel_rfl) (by kernel_rfl) (fun _ _ _ h => h) (Or.inl ⟨by rfl, ?_⟩) (by assumption) ?_
    rotate_left
    · intro w hSw
      (try dsimp only at hSw)
      first | (go_simp; done) | (go_simp; with_reducible rfl)
    (try simp only [Act.put, List.setIfInBounds_toArray, List.set_cons_zero, List.set_cons_succ])
    refine wpAnyH_take (i := 9) (oi := { dst := some 38, op := .move (.tmp 7), type := 3, pos := "l13_stable.go:54", after := #[], guard := none }) (v := ?_) rfl (by kernel_rfl) (by kernel_rfl) (by kernel_rfl) (fun _ _ _ h => h) (Or.inl ⟨by rfl, ?_⟩) (by assumption) ?_
    rotate_left
    · intro w hSw
      (try dsimp only at hSw)
      first | (go_simp; done) | (go_simp; with_reducible rfl)
    (try simp only [Act.put, List.setIfInBounds_toArray, List.set_cons_zero, List.set_cons_succ])
    refine wpAnyH_take (i := 10) (oi := { dst := some 39, op := .indexAddr 29 (.tmp 37) (.tmp 38), type := 0, pos := "l13_stable.go:54", after := #[⟨8, .data⟩, ⟨9, .data⟩], guard := none }) (v := ?_) rfl (by kernel_rfl) (by kernel_rfl) (by kernel_rfl) (fun _ _ _ h => h) (Or.inl ⟨by rfl, ?_⟩) (by assumption) ?_
    rotate_left
    · intro w hSw
      (try dsimp only at hSw)
      first | (go_simp; done) | (go_simp; with_reducible rfl)
    (try simp only [Act.put, List.setIfInBounds_toArray, List.set_cons_zero, List.set_cons_succ])
    refine wpAnyH_take (i := 11) (oi := { dst := some 40, op := .fieldAddr 80 (.tmp 39) 0, type := 0, pos := "l13_stable.go:54", after := #[⟨10, .data⟩], guard := none }) (v := ?_) rfl (by kernel_rfl) (by kernel_rfl) (by kernel_rfl) (fun _ _ _ h => h) (Or.inl ⟨by rfl, ?_⟩) (by assumption) ?_
    rotate_left
    · intro w hSw
      (try dsimp only at hSw)
      first | (go_simp; done) | (go_simp; with_reducible rfl)
    (try simp only [Act.put, List.setIfInBounds_toArray, List.set_cons_zero, List.set_cons_succ])
    refine wpAnyH_take (i := 12) (oi := { dst := some 41, op := .load 2 (.tmp 40), type := 2, pos := "l13_stable.go:54", after := #[⟨11, .data⟩], guard := none }) (v := ?_) rfl (by kernel_rfl) (by kernel_rfl) (by kernel_rfl) (fun _ _ _ h => h) (Or.inl ⟨by rfl, ?_⟩) (by assumption) ?_
    rotate_left
    · intro w hSw
      (try dsimp only at hSw)
      first | (go_simp; done) | (go_simp; with_reducible rfl)
    (try simp only [Act.put, List.setIfInBounds_toArray, List.set_cons_zero, List.set_cons_succ])
    refine wpAnyH_take (i := 13) (oi := { dst := some 42, op := .indexAddr 28 (.tmp 35) (.tmp 41), type := 0, pos := "l13_stable.go:54", after := #[⟨6, .data⟩, ⟨12, .data⟩], guard := none }) (v := ?_) rfl (by kernel_rfl) (by kernel_rfl) (by kernel_rfl) (fun _ _ _ h => h) (Or.inl ⟨by rfl, ?_⟩) (by assumption) ?_
    rotate_left
    · intro w hSw
      (try dsimp only at hSw)
      first | (go_simp; done) | (go_simp; with_reducible rfl)
    (try simp only [Act.put, List.setIfInBounds_toArray, List.set_cons_zero, List.set_cons_succ])
    refine wpAnyH_take (i := 14) (oi := { dst := some 43, op := .load 2 (.tmp 42), type := 2, pos := "l13_stable.go:54", after := #[⟨13, .data⟩], guard := none }) (v := ?_) rfl (by kernel_rfl) (by kernel_rfl) (by kernel_rfl) (fun _ _ _ h => h) (Or.inl ⟨by rfl, ?_⟩) (by assumption) ?_
    rotate_left
    · intro w hSw
      (try dsimp only at hSw)
      first | (go_simp; done) | (go_simp; with_reducible rfl)
    (try simp only [Act.put, List.setIfInBounds_toArray, List.set_cons_zero, List.set_cons_succ])
    refine wpAnyH_take (i := 15) (oi := { dst := some 44, op := .binOp .leq 2 (.tmp 34) (.tmp 43) 2, type := 4, pos := "l13_stable.go:54", after := #[⟨5, .data⟩, ⟨14, .data⟩], guard := none }) (v := ?_) rfl (by kernel_rfl) (by kernel_rfl) (by kernel_rfl) (fun _ _ _ h => h) (Or.inl ⟨by rfl, ?_⟩) (by assumption) ?_
    rotate_left
    · intro w hSw
      (try dsimp only at hSw)
      first | (go_simp; done) | (go_simp; with_reducible rfl)
    (try simp only [Act.put, List.setIfInBounds_toArray, List.set_cons_zero, List.set_cons_succ])
    refine wpAnyH_done (by kernel_rfl) ?_ _
    have HOBd : Hid (wr.drew.heap[ob]? = some (.cells #[.slice (some ⟨vb, vo, none⟩) 4 zc, .slice oa L.length oc] 31 (0, 0))) := HOB.out
    have HROWd : Hid (wr.drew.ownsRow (ob + 1) 80 8 (.slice oa L.length oc) L.length (opCells L)) := HROW.out.drew
    have HBLd : Hid (Below ob w3 wr.drew) := ⟨HBL.out.os, HBL.out.tape, HBL.out.output, HBL.out.size, HBL.out.block⟩
    have HOkd : Hid (OpAt wr.drew b (off + k * 8) x) := HOk.out
    have hobd : ob < wr.drew.heap.size := hobl
    have HCd : Hid (wr.drew.cell? ⟨w.heap.size, 1, none⟩ = some (.slice (some ⟨b, off, none⟩) no co)) := a1
    clear hS hHeld d0 d1 d2 d3 d4 d5 d6 d7 a0 a1 hYc HOB HROW HBL HOk hobl HYr HTr hsr
    generalize wr.drew = wr at HOBd HROWd HBLd HOkd hobd HCd ⊢
    have a1 := HCd.out
    obtain ⟨d0, d1, d2, d3, d4, d5, d6, d7⟩ := HOkd.out
    have HOB := HOBd
    have HROW := HROWd
    have HBL := HBLd
    have HOk := HOkd
    have hobl := hobd
    clear HOBd HROWd HBLd HOkd hobd HCd
    obtain ⟨tb, htb⟩ : ∃ b, decide (x.seq ≤ Y) = b := ⟨_, rfl⟩
    rw [htb] at HPx
    have HTb := Lib.hid htb
    clear htb
    cases tb
    · have HE : Hid ((l.take (k + 1)).filter (cutP ys) = L) := by show _ = _; rw [HSt.out, HPx.out]; rfl
      have hdt := HTb.out
      have hnl : ¬ x.seq ≤ Y := of_decide_eq_false hdt
      have HOn : Hid (OutC ob (.slice (some ⟨vb, vo, none⟩) 4 zc) ((l.take (k + 1)).filter (cutP ys)) w3 wr) := by
        show OutC _ _ _ _ _
        rw [HE.out]
        exact ⟨oa, oc, HOB.out, HROW.out, HBL.out⟩
      clear a1 d0 d1 d2 d3 d4 d5 d6 d7
      go_wp2
      go_roundw
      case rel => exact ⟨k + 1, by omega, by go_num, HOn⟩
      case measure => simp [intOf]; omega
    have HE : Hid ((l.take (k + 1)).filter (cutP ys) = L ++ [x]) := by show _ = _; rw [HSt.out, HPx.out]; rfl
    have hdt := HTb.out
    have hyl : x.seq ≤ Y := of_decide_eq_true hdt
    have hSw : wr.cell? ⟨w.heap.size, 1, none⟩ = some (.slice (some ⟨b, off, none⟩) no co) ∧ wr.cell? ⟨b, off + k * 8, none⟩ = some (.int .i64 x.dev) ∧ wr.cell? ⟨b, off + k * 8 + 1, none⟩ = some (.int .i64 x.seq) ∧ wr.cell? ⟨b, off + k * 8 + 2, none⟩ = some (.int .i64 x.stamp) ∧ wr.cell? ⟨b, off + k * 8 + 3, none⟩ = some (.int .i64 x.kind) ∧ wr.cell? ⟨b, off + k * 8 + 4, none⟩ = some (.string x.item) ∧ wr.cell? ⟨b, off + k * 8 + 5, none⟩ = some (.int .i64 x.qty) ∧ wr.cell? ⟨b, off + k * 8 + 6, none⟩ = some (.int .i64 x.level) ∧ wr.cell? ⟨b, off + k * 8 + 7, none⟩ = some (.int .i64 x.undos) := ⟨a1, d0, d1, d2, d3, d4, d5, d6, d7⟩
    clear a1 d0 d1 d2 d3 d4 d5 d6 d7 HOk
    go_upto_region 8 with fail
    obtain ⟨z0, hz0e⟩ : ∃ z0, wr.drew = z0 := ⟨_, rfl⟩
    have hS : z0.cell? ⟨w.heap.size, 1, none⟩ = some (.slice (some ⟨b, off, none⟩) no co) ∧ z0.cell? ⟨b, off + k * 8, none⟩ = some (.int .i64 x.dev) ∧ z0.cell? ⟨b, off + k * 8 + 1, none⟩ = some (.int .i64 x.seq) ∧ z0.cell? ⟨b, off + k * 8 + 2, none⟩ = some (.int .i64 x.stamp) ∧ z0.cell? ⟨b, off + k * 8 + 3, none⟩ = some (.int .i64 x.kind) ∧ z0.cell? ⟨b, off + k * 8 + 4, none⟩ = some (.string x.item) ∧ z0.cell? ⟨b, off + k * 8 + 5, none⟩ = some (.int .i64 x.qty) ∧ z0.cell? ⟨b, off + k * 8 + 6, none⟩ = some (.int .i64 x.level) ∧ z0.cell? ⟨b, off + k * 8 + 7, none⟩ = some (.int .i64 x.undos) := ⟨by rw [← hz0e]; exact hSw.1, by rw [← hz0e]; exact hSw.2.1, by rw [← hz0e]; exact hSw.2.2.1, by rw [← hz0e]; exact hSw.2.2.2.1, by rw [← hz0e]; exact hSw.2.2.2.2.1, by rw [← hz0e]; exact hSw.2.2.2.2.2.1, by rw [← hz0e]; exact hSw.2.2.2.2.2.2.1, by rw [← hz0e]; exact hSw.2.2.2.2.2.2.2.1, by rw [← hz0e]; exact hSw.2.2.2.2.2.2.2.2⟩
    have ob0 : Hid (z0.heap[ob]? = some (.cells #[.slice (some ⟨vb, vo, none⟩) 4 zc, .slice oa L.length oc] 31 (0, 0))) := by rw [← hz0e]; exact HOB.out
    have row0 : z0.ownsRow (ob + 1) 80 8 (.slice oa L.length oc) L.length (opCells L) := by rw [← hz0e]; exact HROW.out
    have obl0 : ob < z0.heap.size := by rw [← hz0e]; exact hobl
    have hb0z : Hid (Below ob wr z0) := by rw [← hz0e]; exact ⟨rfl, rfl, rfl, Nat.le_refl _, fun _ _ => rfl⟩
    have o1 := (pair_cells ob0.out).2
    have row1 := row0.alloc (.cells #[.int .i64 x.dev, .int .i64 x.seq, .int .i64 x.stamp, .int .i64 x.kind, .string x.item, .int .i64 x.qty, .int .i64 x.level, .int .i64 x.undos] 80)
    have hbz1 : Below ob z0 (z0.alloc (.cells #[.int .i64 x.dev, .int .i64 x.seq, .int .i64 x.stamp, .int .i64 x.kind, .string x.item, .int .i64 x.qty, .int .i64 x.level, .int .i64 x.undos] 80)) := (Below.refl ob z0).alloc (by omega) _
    obtain ⟨v', z2, hrun, hown2, hgr, _⟩ := run_append_own (P := Try.prog) (z0.alloc (.cells #[.int .i64 x.dev, .int .i64 x.seq, .int .i64 x.stamp, .int .i64 x.kind, .string x.item, .int .i64 x.qty, .int .i64 x.level, .int .i64 x.undos] 80)) (ob + 1) 29 29 80 i0 (.agg #[.int .i64 0, .int .i64 0, .int .i64 0, .int .i64 0, .string ⟨#[]⟩, .int .i64 0, .int .i64 0, .int .i64 0]) 8 72 Try.underlying29 hi hz0 hz1 hz2 rfl (by decide) _ _ _ row1 ⟨z0.heap.size, 0, none⟩ 1 1 (opRow x) rfl (opRow_new z0 x) (fun u hu => opCells_one [x] u (by show u ∈ opRow x ++ []; rw [List.append_nil]; exact hu)) (by unfold maxLen; omega) (by omega) (by show _ ≤ (z0.heap.push _).size; simp; omega)
    have hbz2 : Below ob z0 z2 := hbz1.grown hgr (Nat.le_trans (by omega) hbz1.size) (fun q hq => by have := (row1.lt q hq).1; omega)
    obtain ⟨va2, vc2, rfl⟩ : ∃ va2 vc2, v' = .slice va2 (L.length + 1) vc2 := by
      rcases hown2.2 with ⟨_, e2⟩ | ⟨_, c2, _, e2, _⟩
      · omega
      · exact ⟨_, c2, e2⟩
    have ob1 : Hid ((z0.alloc (.cells #[.int .i64 x.dev, .int .i64 x.seq, .int .i64 x.stamp, .int .i64 x.kind, .string x.item, .int .i64 x.qty, .int .i64 x.level, .int .i64 x.undos] 80)).heap[ob]? = some (.cells #[.slice (some ⟨vb, vo, none⟩) 4 zc, .slice oa L.length oc] 31 (0, 0))) := (Below.heap_alloc _ _ _ obl0).trans ob0.out
    have ob2 : Hid (z2.heap[ob]? = some (.cells #[.slice (some ⟨vb, vo, none⟩) 4 zc, .slice oa L.length oc] 31 (0, 0))) := (hgr.block ob (by show _ < (z0.heap.push _).size; simp; omega) (fun h => by have := (row1.lt ob h.symm).1; omega)).trans ob1.out
    have o11 := (pair_cells ob1.out).2
    have o12 := (pair_cells ob2.out).2
    have fz2 := (pair_frozen ob2.out).2
    have HBOX3 : Hid ((z2.setCell ⟨ob, 1, none⟩ (.slice va2 (L.length + 1) vc2)).heap[ob]? = some (.cells #[.slice (some ⟨vb, vo, none⟩) 4 zc, .slice va2 (L.length + 1) vc2] 31 (0, 0))) := heap_setCell_same _ _ _ _ _ _ ob2.out
    have HROW3 : Hid ((z2.setCell ⟨ob, 1, none⟩ (.slice va2 (L.length + 1) vc2)).ownsRow (ob + 1) 80 8 (.slice va2 (L.length + 1) vc2) (L.length + 1) (opCells L ++ opRow x)) := row_put hown2 (fun q hq => by have := (hown2.lt q hq).1; omega)
    have hbz3 : Below ob z0 (z2.setCell ⟨ob, 1, none⟩ (.slice va2 (L.length + 1) vc2)) := hbz2.setCell (Nat.le_refl _) _
    have HBEL3 : Hid (Below ob wr (z2.setCell ⟨ob, 1, none⟩ (.slice va2 (L.length + 1) vc2))) := hb0z.out.trans hbz3
    have hSd : z0.cell? ⟨w.heap.size, 1, none⟩ = some (.slice (some ⟨b, off, none⟩) no co) ∧ z0.cell? ⟨b, off + k * 8, none⟩ = some (.int .i64 x.dev) ∧ z0.cell? ⟨b, off + k * 8 + 1, none⟩ = some (.int .i64 x.seq) ∧ z0.cell? ⟨b, off + k * 8 + 2, none⟩ = some (.int .i64 x.stamp) ∧ z0.cell? ⟨b, off + k * 8 + 3, none⟩ = some (.int .i64 x.kind) ∧ z0.cell? ⟨b, off + k * 8 + 4, none⟩ = some (.string x.item) ∧ z0.cell? ⟨b, off + k * 8 + 5, none⟩ = some (.int .i64 x.qty) ∧ z0.cell? ⟨b, off + k * 8 + 6, none⟩ = some (.int .i64 x.level) ∧ z0.cell? ⟨b, off + k * 8 + 7, none⟩ = some (.int .i64 x.undos) := hS
    have hS1 : (z0.alloc (.cells #[.int .i64 x.dev, .int .i64 x.seq, .int .i64 x.stamp, .int .i64 x.kind, .string x.item, .int .i64 x.qty, .int .i64 x.level, .int .i64 x.undos] 80)).cell? ⟨w.heap.size, 1, none⟩ = some (.slice (some ⟨b, off, none⟩) no co) ∧ (z0.alloc (.cells #[.int .i64 x.dev, .int .i64 x.seq, .int .i64 x.stamp, .int .i64 x.kind, .string x.item, .int .i64 x.qty, .int .i64 x.level, .int .i64 x.undos] 80)).cell? ⟨b, off + k * 8, none⟩ = some (.int .i64 x.dev) ∧ (z0.alloc (.cells #[.int .i64 x.dev, .int .i64 x.seq, .int .i64 x.stamp, .int .i64 x.kind, .string x.item, .int .i64 x.qty, .int .i64 x.level, .int .i64 x.undos] 80)).cell? ⟨b, off + k * 8 + 1, none⟩ = some (.int .i64 x.seq) ∧ (z0.alloc (.cells #[.int .i64 x.dev, .int .i64 x.seq, .int .i64 x.stamp, .int .i64 x.kind, .string x.item, .int .i64 x.qty, .int .i64 x.level, .int .i64 x.undos] 80)).cell? ⟨b, off + k * 8 + 2, none⟩ = some (.int .i64 x.stamp) ∧ (z0.alloc (.cells #[.int .i64 x.dev, .int .i64 x.seq, .int .i64 x.stamp, .int .i64 x.kind, .string x.item, .int .i64 x.qty, .int .i64 x.level, .int .i64 x.undos] 80)).cell? ⟨b, off + k * 8 + 3, none⟩ = some (.int .i64 x.kind) ∧ (z0.alloc (.cells #[.int .i64 x.dev, .int .i64 x.seq, .int .i64 x.stamp, .int .i64 x.kind, .string x.item, .int .i64 x.qty, .int .i64 x.level, .int .i64 x.undos] 80)).cell? ⟨b, off + k * 8 + 4, none⟩ = some (.string x.item) ∧ (z0.alloc (.cells #[.int .i64 x.dev, .int .i64 x.seq, .int .i64 x.stamp, .int .i64 x.kind, .string x.item, .int .i64 x.qty, .int .i64 x.level, .int .i64 x.undos] 80)).cell? ⟨b, off + k * 8 + 5, none⟩ = some (.int .i64 x.qty) ∧ (z0.alloc (.cells #[.int .i64 x.dev, .int .i64 x.seq, .int .i64 x.stamp, .int .i64 x.kind, .string x.item, .int .i64 x.qty, .int .i64 x.level, .int .i64 x.undos] 80)).cell? ⟨b, off + k * 8 + 6, none⟩ = some (.int .i64 x.level) ∧ (z0.alloc (.cells #[.int .i64 x.dev, .int .i64 x.seq, .int .i64 x.stamp, .int .i64 x.kind, .string x.item, .int .i64 x.qty, .int .i64 x.level, .int .i64 x.undos] 80)).cell? ⟨b, off + k * 8 + 7, none⟩ = some (.int .i64 x.undos) := ⟨(hbz1.cell (by show w.heap.size < ob; omega)).trans hS.1, (hbz1.cell (by show b < ob; omega)).trans hS.2.1, (hbz1.cell (by show b < ob; omega)).trans hS.2.2.1, (hbz1.cell (by show b < ob; omega)).trans hS.2.2.2.1, (hbz1.cell (by show b < ob; omega)).trans hS.2.2.2.2.1, (hbz1.cell (by show b < ob; omega)).trans hS.2.2.2.2.2.1, (hbz1.cell (by show b < ob; omega)).trans hS.2.2.2.2.2.2.1, (hbz1.cell (by show b < ob; omega)).trans hS.2.2.2.2.2.2.2.1, (hbz1.cell (by show b < ob; omega)).trans hS.2.2.2.2.2.2.2.2⟩
    have hS2 : z2.cell? ⟨w.heap.size, 1, none⟩ = some (.slice (some ⟨b, off, none⟩) no co) ∧ z2.cell? ⟨b, off + k * 8, none⟩ = some (.int .i64 x.dev) ∧ z2.cell? ⟨b, off + k * 8 + 1, none⟩ = some (.int .i64 x.seq) ∧ z2.cell? ⟨b, off + k * 8 + 2, none⟩ = some (.int .i64 x.stamp) ∧ z2.cell? ⟨b, off + k * 8 + 3, none⟩ = some (.int .i64 x.kind) ∧ z2.cell? ⟨b, off + k * 8 + 4, none⟩ = some (.string x.item) ∧ z2.cell? ⟨b, off + k * 8 + 5, none⟩ = some (.int .i64 x.qty) ∧ z2.cell? ⟨b, off + k * 8 + 6, none⟩ = some (.int .i64 x.level) ∧ z2.cell? ⟨b, off + k * 8 + 7, none⟩ = some (.int .i64 x.undos) := ⟨(hbz2.cell (by show w.heap.size < ob; omega)).trans hS.1, (hbz2.cell (by show b < ob; omega)).trans hS.2.1, (hbz2.cell (by show b < ob; omega)).trans hS.2.2.1, (hbz2.cell (by show b < ob; omega)).trans hS.2.2.2.1, (hbz2.cell (by show b < ob; omega)).trans hS.2.2.2.2.1, (hbz2.cell (by show b < ob; omega)).trans hS.2.2.2.2.2.1, (hbz2.cell (by show b < ob; omega)).trans hS.2.2.2.2.2.2.1, (hbz2.cell (by show b < ob; omega)).trans hS.2.2.2.2.2.2.2.1, (hbz2.cell (by show b < ob; omega)).trans hS.2.2.2.2.2.2.2.2⟩
    have hS3 : (z2.setCell ⟨ob, 1, none⟩ (.slice va2 (L.length + 1) vc2)).cell? ⟨w.heap.size, 1, none⟩ = some (.slice (some ⟨b, off, none⟩) no co) ∧ (z2.setCell ⟨ob, 1, none⟩ (.slice va2 (L.length + 1) vc2)).cell? ⟨b, off + k * 8, none⟩ = some (.int .i64 x.dev) ∧ (z2.setCell ⟨ob, 1, none⟩ (.slice va2 (L.length + 1) vc2)).cell? ⟨b, off + k * 8 + 1, none⟩ = some (.int .i64 x.seq) ∧ (z2.setCell ⟨ob, 1, none⟩ (.slice va2 (L.length + 1) vc2)).cell? ⟨b, off + k * 8 + 2, none⟩ = some (.int .i64 x.stamp) ∧ (z2.setCell ⟨ob, 1, none⟩ (.slice va2 (L.length + 1) vc2)).cell? ⟨b, off + k * 8 + 3, none⟩ = some (.int .i64 x.kind) ∧ (z2.setCell ⟨ob, 1, none⟩ (.slice va2 (L.length + 1) vc2)).cell? ⟨b, off + k * 8 + 4, none⟩ = some (.string x.item) ∧ (z2.setCell ⟨ob, 1, none⟩ (.slice va2 (L.length + 1) vc2)).cell? ⟨b, off + k * 8 + 5, none⟩ = some (.int .i64 x.qty) ∧ (z2.setCell ⟨ob, 1, none⟩ (.slice va2 (L.length + 1) vc2)).cell? ⟨b, off + k * 8 + 6, none⟩ = some (.int .i64 x.level) ∧ (z2.setCell ⟨ob, 1, none⟩ (.slice va2 (L.length + 1) vc2)).cell? ⟨b, off + k * 8 + 7, none⟩ = some (.int .i64 x.undos) := ⟨(hbz3.cell (by show w.heap.size < ob; omega)).trans hS.1, (hbz3.cell (by show b < ob; omega)).trans hS.2.1, (hbz3.cell (by show b < ob; omega)).trans hS.2.2.1, (hbz3.cell (by show b < ob; omega)).trans hS.2.2.2.1, (hbz3.cell (by show b < ob; omega)).trans hS.2.2.2.2.1, (hbz3.cell (by show b < ob; omega)).trans hS.2.2.2.2.2.1, (hbz3.cell (by show b < ob; omega)).trans hS.2.2.2.2.2.2.1, (hbz3.cell (by show b < ob; omega)).trans hS.2.2.2.2.2.2.2.1, (hbz3.cell (by show b < ob; omega)).trans hS.2.2.2.2.2.2.2.2⟩
    clear hSw HOB HROW row0 hb0z
    go_wp2_with fail
    refine wp_region_held_drew (S := fun w' => w'.cell? ⟨w.heap.size, 1, none⟩ = some (.slice (some ⟨b, off, none⟩) no co) ∧ w'.cell? ⟨b, off + k * 8, none⟩ = some (.int .i64 x.dev) ∧ w'.cell? ⟨b, off + k * 8 + 1, none⟩ = some (.int .i64 x.seq) ∧ w'.cell? ⟨b, off + k * 8 + 2, none⟩ = some (.int .i64 x.stamp) ∧ w'.cell? ⟨b, off + k * 8 + 3, none⟩ = some (.int .i64 x.kind) ∧ w'.cell? ⟨b, off + k * 8 + 4, none⟩ = some (.string x.item) ∧ w'.cell? ⟨b, off + k * 8 + 5, none⟩ = some (.int .i64 x.qty) ∧ w'.cell? ⟨b, off + k * 8 + 6, none⟩ = some (.int .i64 x.level) ∧ w'.cell? ⟨b, off + k * 8 + 7, none⟩ = some (.int .i64 x.undos)) (by kernel_rfl) (by rw [hz0e]; exact hS) (fun hHeld => ?_)
    rw [hz0e]
    clear hHeld
    refine wpAnyH_take (i := 0) (oi := { dst := some 45, op := .fieldAddr 31 (.tmp 6) 1, type := 0, pos := "l13_stable.go:55", after := #[], guard := none }) (v := ?_) rfl (by kernel_rfl) (by kernel_rfl) (by kernel_rfl) (fun _ _ _ h => h) (Or.inl ⟨by rfl, ?_⟩) (by assumption) ?_
    rotate_left
    · intro w hSw
      (try dsimp only at hSw)
      first | (go_simp; done) | (go_simp; with_reducible rfl)
    (try simp only [Act.put, List.setIfInBounds_toArray, List.set_cons_zero, List.set_cons_succ])
    refine wpAnyH_take (i := 2) (oi := { dst := some 47, op := .fieldAddr 31 (.tmp 2) 1, type := 0, pos := "l13_stable.go:55", after := #[], guard := none }) (v := ?_) rfl (by kernel_rfl) (by kernel_rfl) (by kernel_rfl) (fun _ _ _ h => h) (Or.inl ⟨by rfl, ?_⟩) (by assumption) ?_
    rotate_left
    · intro w hSw
      (try dsimp only at hSw)
      first | (go_simp; done) | (go_simp; with_reducible rfl)
    (try simp only [Act.put, List.setIfInBounds_toArray, List.set_cons_zero, List.set_cons_succ])
    refine wpAnyH_take (i := 3) (oi := { dst := some 48, op := .load 29 (.tmp 47), type := 29, pos := "l13_stable.go:55", after := #[⟨2, .data⟩], guard := none }) (v := ?_) rfl (by kernel_rfl) (by kernel_rfl) (by kernel_rfl) (fun _ _ _ h => h) (Or.inl ⟨by rfl, ?_⟩) (by assumption) ?_
    rotate_left
    · intro w hSw
      (try dsimp only at hSw)
      first | (go_simp; done) | (go_simp; with_reducible rfl)
    (try simp only [Act.put, List.setIfInBounds_toArray, List.set_cons_zero, List.set_cons_succ])
    refine wpAnyH_take (i := 4) (oi := { dst := some 49, op := .move (.tmp 7), type := 3, pos := "l13_stable.go:55", after := #[], guard := none }) (v := ?_) rfl (by kernel_rfl) (by kernel_rfl) (by kernel_rfl) (fun _ _ _ h => h) (Or.inl ⟨by rfl, ?_⟩) (by assumption) ?_
    rotate_left
    · intro w hSw
      (try dsimp only at hSw)
      first | (go_simp; done) | (go_simp; with_reducible rfl)
    (try simp only [Act.put, List.setIfInBounds_toArray, List.set_cons_zero, List.set_cons_succ])
    refine wpAnyH_take (i := 5) (oi := { dst := some 50, op := .indexAddr 29 (.tmp 48) (.tmp 49), type := 0, pos := "l13_stable.go:55", after := #[⟨3, .data⟩, ⟨4, .data⟩], guard := none }) (v := ?_) rfl (by kernel_rfl) (by kernel_rfl) (by kernel_rfl) (fun _ _ _ h => h) (Or.inl ⟨by rfl, ?_⟩) (by assumption) ?_
    rotate_left
    · intro w hSw
      (try dsimp only at hSw)
      first | (go_simp; done) | (go_simp; with_reducible rfl)
    (try simp only [Act.put, List.setIfInBounds_toArray, List.set_cons_zero, List.set_cons_succ])
    refine wpAnyH_take (i := 6) (oi := { dst := some 51, op := .load 80 (.tmp 50), type := 80, pos := "l13_stable.go:55", after := #[⟨5, .data⟩], guard := none }) (v := ?_) rfl (by kernel_rfl) (by kernel_rfl) (by kernel_rfl) (fun _ _ _ h => h) (Or.inl ⟨by rfl, ?_⟩) (by assumption) ?_
    rotate_left
    · intro w hSw
      (try dsimp only at hSw)
      first | (go_simp; done) | (go_simp; with_reducible rfl)
    (try simp only [Act.put, List.setIfInBounds_toArray, List.set_cons_zero, List.set_cons_succ])
    refine wpAnyH_ready (rs := [1, 7]) (by kernel_rfl) (by simp) ?_
    refine AllReadyH.cons (o := { dst := some 46, op := .load 29 (.tmp 45), type := 29, pos := "l13_stable.go:55", after := #[⟨0, .data⟩], guard := none }) rfl (fun K hK => ?_) (AllReadyH.cons (o := { dst := some 52, op := .buildSlice 29 1 #[(0, .tmp 51)], type := 29, pos := "l13_stable.go:55", after := #[⟨6, .data⟩], guard := none }) rfl (fun K hK => ?_) AllReadyH.nil)
    all_goals go_simp
    · refine hK.out _ _ hSd (fun hHeld7 => ?_)
      clear hK K
      (try simp only [Act.put, List.setIfInBounds_toArray, List.set_cons_zero, List.set_cons_succ])
      refine wpAnyH_ready (rs := [7]) (by kernel_rfl) (by simp) ?_
      refine AllReadyH.cons (o := { dst := some 52, op := .buildSlice 29 1 #[(0, .tmp 51)], type := 29, pos := "l13_stable.go:55", after := #[⟨6, .data⟩], guard := none }) rfl (fun K hK => ?_) AllReadyH.nil
      go_simp
      refine hK.out _ _ hS1 (fun hHeld6 => ?_)
      clear hK K
      (try simp only [Act.put, List.setIfInBounds_toArray, List.set_cons_zero, List.set_cons_succ])
      refine wpAnyH_ready (rs := [8]) (by kernel_rfl) (by simp) ?_
      refine AllReadyH.cons (o := { dst := some 53, op := .call { callee := .builtin .append, args := #[.tmp 46, .tmp 52], argTypes := #[29, 29] }, type := 29, pos := "l13_stable.go:55", after := #[⟨1, .data⟩, ⟨7, .data⟩], guard := none }) rfl (fun K hK => ?_) AllReadyH.nil
      rw [if_pos (by rfl)]
      refine opwp_append _ _ _ rfl _ _ rfl rfl hrun ?_
      refine hK.out _ _ hS2 (fun hHeld8 => ?_)
      clear hK K
      (try simp only [Act.put, List.setIfInBounds_toArray, List.set_cons_zero, List.set_cons_succ])
      refine wpAnyH_take (i := 9) (oi := { dst := some 54, op := .fieldAddr 31 (.tmp 6) 1, type := 0, pos := "l13_stable.go:55", after := #[⟨0, .phase⟩, ⟨1, .phase⟩, ⟨2, .phase⟩, ⟨3, .phase⟩, ⟨4, .phase⟩, ⟨5, .phase⟩, ⟨6, .phase⟩, ⟨7, .phase⟩, ⟨8, .phase⟩], guard := none }) (v := ?_) rfl (by kernel_rfl) (by kernel_rfl) (by kernel_rfl) (fun _ _ _ h => h) (Or.inl ⟨by rfl, ?_⟩) (by assumption) ?_
      rotate_left
      · intro w hSw
        (try dsimp only at hSw)
        first | (go_simp; done) | (go_simp; with_reducible rfl)
      (try simp only [Act.put, List.setIfInBounds_toArray, List.set_cons_zero, List.set_cons_succ])
      refine wpAnyH_ready (rs := [10]) (by kernel_rfl) (by simp) ?_
      refine AllReadyH.cons (o := { dst := none, op := .store 29 (.tmp 54) (.tmp 53), type := 0, pos := "l13_stable.go:55", after := #[⟨9, .data⟩, ⟨8, .data⟩, ⟨8, .chain⟩, ⟨0, .phase⟩, ⟨1, .phase⟩, ⟨2, .phase⟩, ⟨3, .phase⟩, ⟨4, .phase⟩, ⟨5, .phase⟩, ⟨6, .phase⟩, ⟨7, .phase⟩, ⟨8, .phase⟩], guard := none }) rfl (fun K hK => ?_) AllReadyH.nil
      go_simp
      refine hK.out _ _ hS3 (fun hHeld9 => ?_)
      clear hK K
      (try simp only [Act.put, List.setIfInBounds_toArray, List.set_cons_zero, List.set_cons_succ])
      refine wpAnyH_done (by kernel_rfl) ?_ _
      have HOn : Hid (OutC ob (.slice (some ⟨vb, vo, none⟩) 4 zc) ((l.take (k + 1)).filter (cutP ys)) w3 (z2.setCell ⟨ob, 1, none⟩ (.slice va2 (L.length + 1) vc2))) := by
        show OutC _ _ _ _ _
        unfold OutC
        rw [HE.out, opCells_snoc, List.length_append]
        exact ⟨va2, vc2, HBOX3.out, HROW3.out, HBL.out.trans HBEL3.out⟩
      clear HBOX3 HROW3 HBEL3 hSd hS1 hS2 hS3 hS ob0 ob1 ob2 o1 o11 o12 fz2 hrun hown2 hgr row1 hbz1 hbz2 hbz3 hHeld6 hHeld7 hHeld8 hHeld9
      go_wp2
      go_roundw
      case rel => exact ⟨k + 1, by omega, by go_num, HOn⟩
      case measure => simp [intOf]; omega
    · refine hK.out _ _ hS1 (fun hHeld7 => ?_)
      clear hK K
      (try simp only [Act.put, List.setIfInBounds_toArray, List.set_cons_zero, List.set_cons_succ])
      refine wpAnyH_ready (rs := [1]) (by kernel_rfl) (by simp) ?_
      refine AllReadyH.cons (o := { dst := some 46, op := .load 29 (.tmp 45), type := 29, pos := "l13_stable.go:55", after := #[⟨0, .data⟩], guard := none }) rfl (fun K hK => ?_) AllReadyH.nil
      go_simp
      refine hK.out _ _ hS1 (fun hHeld6 => ?_)
      clear hK K
      (try simp only [Act.put, List.setIfInBounds_toArray, List.set_cons_zero, List.set_cons_succ])
      refine wpAnyH_ready (rs := [8]) (by kernel_rfl) (by simp) ?_
      refine AllReadyH.cons (o := { dst := some 53, op := .call { callee := .builtin .append, args := #[.tmp 46, .tmp 52], argTypes := #[29, 29] }, type := 29, pos := "l13_stable.go:55", after := #[⟨1, .data⟩, ⟨7, .data⟩], guard := none }) rfl (fun K hK => ?_) AllReadyH.nil
      rw [if_pos (by rfl)]
      refine opwp_append _ _ _ rfl _ _ rfl rfl hrun ?_
      refine hK.out _ _ hS2 (fun hHeld8 => ?_)
      clear hK K
      (try simp only [Act.put, List.setIfInBounds_toArray, List.set_cons_zero, List.set_cons_succ])
      refine wpAnyH_take (i := 9) (oi := { dst := some 54, op := .fieldAddr 31 (.tmp 6) 1, type := 0, pos := "l13_stable.go:55", after := #[⟨0, .phase⟩, ⟨1, .phase⟩, ⟨2, .phase⟩, ⟨3, .phase⟩, ⟨4, .phase⟩, ⟨5, .phase⟩, ⟨6, .phase⟩, ⟨7, .phase⟩, ⟨8, .phase⟩], guard := none }) (v := ?_) rfl (by kernel_rfl) (by kernel_rfl) (by kernel_rfl) (fun _ _ _ h => h) (Or.inl ⟨by rfl, ?_⟩) (by assumption) ?_
      rotate_left
      · intro w hSw
        (try dsimp only at hSw)
        first | (go_simp; done) | (go_simp; with_reducible rfl)
      (try simp only [Act.put, List.setIfInBounds_toArray, List.set_cons_zero, List.set_cons_succ])
      refine wpAnyH_ready (rs := [10]) (by kernel_rfl) (by simp) ?_
      refine AllReadyH.cons (o := { dst := none, op := .store 29 (.tmp 54) (.tmp 53), type := 0, pos := "l13_stable.go:55", after := #[⟨9, .data⟩, ⟨8, .data⟩, ⟨8, .chain⟩, ⟨0, .phase⟩, ⟨1, .phase⟩, ⟨2, .phase⟩, ⟨3, .phase⟩, ⟨4, .phase⟩, ⟨5, .phase⟩, ⟨6, .phase⟩, ⟨7, .phase⟩, ⟨8, .phase⟩], guard := none }) rfl (fun K hK => ?_) AllReadyH.nil
      go_simp
      refine hK.out _ _ hS3 (fun hHeld9 => ?_)
      clear hK K
      (try simp only [Act.put, List.setIfInBounds_toArray, List.set_cons_zero, List.set_cons_succ])
      refine wpAnyH_done (by kernel_rfl) ?_ _
      have HOn : Hid (OutC ob (.slice (some ⟨vb, vo, none⟩) 4 zc) ((l.take (k + 1)).filter (cutP ys)) w3 (z2.setCell ⟨ob, 1, none⟩ (.slice va2 (L.length + 1) vc2))) := by
        show OutC _ _ _ _ _
        unfold OutC
        rw [HE.out, opCells_snoc, List.length_append]
        exact ⟨va2, vc2, HBOX3.out, HROW3.out, HBL.out.trans HBEL3.out⟩
      clear HBOX3 HROW3 HBEL3 hSd hS1 hS2 hS3 hS ob0 ob1 ob2 o1 o11 o12 fz2 hrun hown2 hgr row1 hbz1 hbz2 hbz3 hHeld6 hHeld7 hHeld8 hHeld9
      go_wp2
      go_roundw
      case rel => exact ⟨k + 1, by omega, by go_num, HOn⟩
      case measure => simp [intOf]; omega
end Go.Proofs.Ytejhmakfbmhhhaa
