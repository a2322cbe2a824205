/- Walks and mathematics that several claims share, part 27. -/
import Derived.Test.YtdbdmfaphdjdpaaGu26
import Derived.Test.YtdbdmfaphdjdpaaGu19
import Derived.Test.YtdbdmfaphdjdpaaGu25
import Derived.Test.YtdbdmfaphdjdpaaGu21
import Derived.Deep.Cut
import Derived.Deep.RegionHeld3
import Derived.Test.YtdbdmfaphdjdpaaGuA
namespace Go.Proofs.Ytdbdmfaphdjdpaa
set_option maxRecDepth 100000
open Go.RowKit

/-- Has the list not this operation, or undone fewer times? -/
def delB (m : List OpV) (o : OpV) : Bool := !((List.range m.length).any fun i => decide ((atOp m i).dev = o.dev) && (decide ((atOp m i).seq = o.seq) && decide (o.undos ≤ (atOp m i).undos)))
def delVs (xs : List Int) (ok : Bool) : List Int := if ok = true then xs else []
def delOs (l m : List OpV) (ok : Bool) : List OpV := if ok = true then l.filter (delB m) else []
theorem delB_at {l : List OpV} (h : incB l = true) {o : OpV} {i : Nat} (hi : i < l.length) (e : eqN l i o.dev o.seq) : delB l o = decide ((atOp l i).undos < o.undos) := by
 have : ((List.range l.length).any fun i => decide ((atOp l i).dev = o.dev) && (decide ((atOp l i).seq = o.seq) && decide (o.undos ≤ (atOp l i).undos))) = decide (o.undos ≤ (atOp l i).undos) := by
  rw [Bool.eq_iff_iff, List.any_eq_true]
  constructor
  ·rintro ⟨j, hj, hp⟩
   rw [List.mem_range] at hj
   simp only [Bool.and_eq_true, decide_eq_true_eq] at hp
   have : j = i := inc_uniq h hj hi ⟨hp.1, hp.2.1⟩ e
   subst this
   exact decide_eq_true hp.2.2
  ·intro hp
   refine ⟨i, by rw [List.mem_range]; exact hi, ?_⟩
   unfold eqN at e
   rw [decide_eq_true e.1, decide_eq_true e.2, hp]
   rfl
 unfold delB
 rw [this]
 by_cases hu : o.undos ≤ (atOp l i).undos
 ·rw [decide_eq_true hu, decide_eq_false (by omega)]; rfl
 ·rw [decide_eq_false hu, decide_eq_true (by omega)]; rfl
theorem delB_none {l : List OpV} {o : OpV} (h : ∀ j, j < l.length → ¬ eqN l j o.dev o.seq) : delB l o = true := by
 have : ((List.range l.length).any fun i => decide ((atOp l i).dev = o.dev) && (decide ((atOp l i).seq = o.seq) && decide (o.undos ≤ (atOp l i).undos))) = false := by
  rw [List.any_eq_false]
  intro j hj
  rw [List.mem_range] at hj
  have := h j hj
  unfold eqN at this
  simp only [Bool.and_eq_true, decide_eq_true_eq, not_and]
  intro a b
  exact absurd ⟨a, b⟩ this
 unfold delB
 rw [this]
 rfl
theorem delVs_len {xs : List Int} {N : Nat} (h : xs.length ≤ N) (R : Bool) : (delVs xs R).length ≤ N := by
 unfold delVs
 split
 ·exact h
 ·exact Nat.zero_le _
theorem delOs_len {l m : List OpV} {N : Nat} (h : l.length ≤ N) (R : Bool) : (delOs l m R).length ≤ N := by
 unfold delOs
 split
 ·exact Nat.le_trans (List.length_filter_le _ _) h
 ·exact Nat.zero_le _
theorem filt_items2 {q : OpV → Bool} {m : List OpV} {N : Nat} (h : ∀ i, i < m.length → (atOp m i).item.size ≤ N) : ∀ i, i < (m.filter q).length → ((m.filter q).getD i OpV.zero).item.size ≤ N := fun i hi => by
 rw [List.getD_eq_getElem?_getD, List.getElem?_eq_getElem hi]
 have hm : (m.filter q)[i] ∈ m := (List.mem_filter.1 (List.getElem_mem hi)).1
 obtain ⟨j, hj, e⟩ := List.mem_iff_getElem.1 hm
 have := h j hj
 unfold atOp at this
 rw [List.getD_eq_getElem?_getD, List.getElem?_eq_getElem hj] at this
 rw [← e]
 exact this

theorem cloneIntsAt (w : World) (B g off n cap : Nat) (xs : List Int) (h : Ints w B (some ⟨g, off, none⟩) n xs) (hn : 0 < n) (hl : n ≤ 1048576) :
  Calls Try.prog 110 #[.slice (some ⟨g, off, none⟩) n cap] w (OwnPost xs w) := by
 obtain ⟨i0, hi, hz0, hz1, hz2⟩ := info_parts Try.infoI64
 have hnil := fun w => Lib.run_eql_slice_nil (P := Try.prog) w 22 2 (some ⟨g, off, none⟩) n cap 0 0 Try.underlying22
 have hown : (w.alloc (.cells #[] 2)).ownsRow w.heap.size 2 1 (.slice (some ⟨w.heap.size, 0, none⟩) 0 0) 0 [] := World.ownsRow_made w #[] 0 (Nat.le_refl _) (by unfold maxLen; omega) rfl
 have hL := Lib.hid h.1
 have H := Lib.hid h
 clear h
 go_enter Try.func110, Try.ntmps110
 go_wp2_with (at_builtin; refine wpList_append_own _ rfl _ _ 22 rfl w.heap.size 2 i0 (.int .i64 0) 1 8 Try.underlying22 hi hz0 hz1 hz2 rfl (by decide) _ _ _ rfl hown ⟨g, off, none⟩ n cap (xs.map (Value.int .i64)) rfl ?c0 ?c1 ?c2 ?c3 ?c4 ?c5 ?_)
 case c0 => rw [List.length_map, hL.out, Nat.mul_one]
 case c1 =>
  intro j u hj
  have hjl : j < xs.length := by
   rcases Nat.lt_or_ge j xs.length with h' | h'
   ·exact h'
   ·rw [List.getElem?_eq_none (by simpa using h')] at hj; cases hj
  obtain ⟨b, off', e, hb, hc⟩ := H.out.2 j (by rw [← hL.out]; exact hjl)
  cases e
  have hlt := block_lt_of_cell hc
  rw [List.getElem?_map, List.getElem?_eq_getElem hjl] at hj
  cases hj
  rw [add_at, World.cell?_alloc_lt w _ _ hlt, hc, List.getD_eq_getElem?_getD, List.getElem?_eq_getElem hjl]
  rfl
 case c2 => exact ints_oneCell _ _
 case c3 => unfold maxLen; omega
 case c4 => omega
 case c5 => simp
 intro v' w1 hown' hgrow _
 have hb1 := ((Below.refl w.heap.size w).alloc (Nat.le_refl _) _).grown hgrow (by simp) (fun j hj => (hown.lt j hj).1)
 obtain ⟨g', cap', hv, _, _⟩ := hown'.form (by omega)
 subst hv
 have HO := Lib.hid (own_of_row (hi := w1.heap.size) (by simpa using hown') (Nat.le_refl _))
 clear hown' hgrow hown
 go_wp2
 go_ret
 exact ⟨some ⟨g', 0, none⟩, cap', by rw [hL.out]; rfl, by rw [hL.out]; exact HO.out, hb1⟩

end Go.Proofs.Ytdbdmfaphdjdpaa

/- The walk of impl.DeltaOf. -/
namespace Go.Proofs.Ytdbdmfaphdjdpaa
set_option maxRecDepth 100000
open Go.RowKit

set_option maxHeartbeats 10000000 in
theorem copiedOpsZ (w : World) (g off cap : Nat) : Calls Try.prog 111 #[.slice (some ⟨g, off, none⟩) 0 cap] w (OpsPostK [] w) := by
 go_enter Try.func111, Try.ntmps111
 go_wp2_with fail
 refine (cloneOpsK w w.heap.size g off 0 cap [] ⟨rfl, fun i hi => absurd hi (by omega)⟩ (Nat.le_refl _) (by omega)).mono ?_
 rintro e w1 ⟨a1, c1, rfl, hcc, ho, hb1⟩
 have HC := Lib.hid hcc
 have HO := Lib.hid ho
 have HB := Lib.hid hb1
 clear hcc ho hb1
 rw [List.length_nil] at *
 go_wp2
 refine wp_loop_rounds 1 ?_
 rw [rounds_succ]
 go_wp2
 go_ret
 exact ⟨a1, c1, rfl, HC.out, HO.out, HB.out⟩
theorem copiedOpsA (w : World) (B : Nat) (a : Option Addr) (n cap : Nat) (l : List OpV) (h : Ops w B a n l) (hB : B ≤ w.heap.size) (hn : n ≤ 1048576) (hcap : a = none → cap = 0) (had : ∀ x, a = some x → ∃ g o, x = ⟨g, o, none⟩) (hm : ∀ i, i < n → (l.getD i OpV.zero).item.size ≤ 1048576) : Calls Try.prog 111 #[.slice a n cap] w (OpsPostK l w) := by
 by_cases h0 : 0 < n ∨ a = none
 ·exact copiedOpsK w B a n cap l h hB hn hcap h0 hm
 ·obtain rfl : n = 0 := by omega
  have hl : l = [] := List.eq_nil_of_length_eq_zero h.1
  subst hl
  rcases a with _ | x
  ·exact absurd (Or.inr rfl) h0
  ·obtain ⟨g, o, rfl⟩ := had x rfl
   exact copiedOpsZ w g o cap

set_option maxHeartbeats 20000000 in
theorem copiedCartK (w : World) (B g off : Nat) (ao : Option Addr) (nv cv no co : Nat) (xs : List Int) (l : List OpV) (hx : Ints w B (some ⟨g, off, none⟩) nv xs) (h : Ops w B ao no l) (hB : B ≤ w.heap.size) (hn0 : 0 < nv) (hv : nv ≤ 1048576) (hn : no ≤ 1048576) (hcap : ao = none → co = 0) (had : ∀ x, ao = some x → ∃ g o, x = ⟨g, o, none⟩) (hm : ∀ i, i < no → (l.getD i OpV.zero).item.size ≤ 1048576) :
  Calls Try.prog 53 #[.agg #[.slice (some ⟨g, off, none⟩) nv cv, .slice ao no co]] w fun e w' => ∃ va vc oa oc mid, e = .returned (.agg #[.slice va xs.length vc, .slice oa l.length oc]) ∧ Own w' w.heap.size mid va xs.length xs ∧ OwnOps w' mid w'.heap.size oa l.length l ∧ w.heap.size ≤ mid ∧ mid ≤ w'.heap.size ∧ Below w.heap.size w w' ∧ Caps oa l.length oc := by
 have hT := Two.mk0 w #[.slice (some ⟨g, off, none⟩) nv cv, .slice ao no co] #[.slice none 0 0, .slice none 0 0] 29
 have HV := Lib.hid (hx.below hT.bel hB)
 have HO := Lib.hid (h.below hT.bel hB)
 have HT := Lib.hid hT
 have HM := Lib.hid hm
 have HC := Lib.hid hcap
 have HD := Lib.hid had
 have hBw := hB
 clear hx h hT hB hm hcap had
 go_enter Try.func53, Try.ntmps53
 go_upto_region 1 with fail
 rename_i KR hKR
 generalize (w.alloc (.cells #[.slice (some ⟨g, off, none⟩) nv cv, .slice ao no co] 29)).alloc (.cells #[.slice none 0 0, .slice none 0 0] 29) = w0 at HV HO HT ⊢
 have hsz0 := HT.out.bel.size
 have hsz1 := lt_of_row HT.out.snd
 obtain ⟨z0, hz0e⟩ : ∃ z0, w0.drew = z0 := ⟨_, rfl⟩
 have g0 : Below w0.heap.size w0 z0 := by rw [← hz0e]; exact ⟨rfl, rfl, rfl, Nat.le_refl _, fun _ _ => rfl⟩
 have HVz := Lib.hid (HV.out.below g0 (by omega))
 have HOz := Lib.hid (HO.out.below g0 (by omega))
 have HTz := Lib.hid (HT.out.next g0)
 have hs0 := g0.size
 have hS := pair_cells HTz.out.fst
 clear g0 HV HO HT
 refine wp_region_held_drew (S := fun w' => w'.cell? ⟨w.heap.size, 0, none⟩ = some (.slice (some ⟨g, off, none⟩) nv cv) ∧ w'.cell? ⟨w.heap.size, 1, none⟩ = some (.slice ao no co)) (by kernel_rfl) (by rw [hz0e]; exact hS) (fun hHeld => ?_)
 rw [hz0e]
 clear hHeld hz0e
 refine tk 0 ⟨some 3, .fieldAddr 29 (.tmp 1) 0, 0, "l04_carts.go:95", #[], none⟩ ?_
 (try simp only [Act.put, u1, u2, u3])
 refine tk 1 ⟨some 4, .load 22 (.tmp 3), 22, "l04_carts.go:95", #[⟨0, .data⟩], none⟩ ?_
 (try simp only [Act.put, u1, u2, u3])
 refine tk 3 ⟨some 6, .fieldAddr 29 (.tmp 1) 1, 0, "l04_carts.go:95", #[], none⟩ ?_
 (try simp only [Act.put, u1, u2, u3])
 refine tk 4 ⟨some 7, .load 27 (.tmp 6), 27, "l04_carts.go:95", #[⟨3, .data⟩], none⟩ ?_
 (try simp only [Act.put, u1, u2, u3])
 refine rk 2 rfl (fun K hK => ?_)
 go_simp
 go_at_call 110
 refine (cloneIntsAt z0 B g off nv cv xs HVz.out hn0 hv).mono ?_
 rintro e w1 ⟨va, vc, rfl, hown, hb1⟩
 have HO1 := Lib.hid (HOz.out.below hb1 (by omega))
 have HT1 := Lib.hid (HTz.out.next hb1)
 have HV1 := Lib.hid hown
 have hs1 := hb1.size
 have hS1 := pair_cells HT1.out.fst
 clear hb1 hown HVz HOz HTz
 refine hK.out _ _ hS1 (fun hHeld2 => ?_)
 clear hK K
 (try simp only [Act.put, u1, u2, u3])
 refine rk 5 rfl (fun K hK => ?_)
 go_simp
 go_at_call 111
 refine (copiedOpsA w1 B ao no co l HO1.out (by omega) hn HC.out HD.out HM.out).mono ?_
 rintro e w2 ⟨oa, oc, rfl, hoc, hop, hb2⟩
 have HT2 := Lib.hid (HT1.out.next hb2)
 have HV2 := Lib.hid (HV1.out.below hb2 (Nat.le_refl _))
 have HP2 := Lib.hid hop
 have HCp := Lib.hid hoc
 have hs2 := hb2.size
 have hlt2 := lt_of_row HT2.out.snd
 have hS2 := pair_cells HT2.out.fst
 clear hb2 hop HO1 HT1 HV1 hoc
 refine hK.out _ _ hS2 (fun hHeld3 => ?_)
 clear hK K
 (try simp only [Act.put, u1, u2, u3])
 refine tk 6 ⟨some 9, .build 29 #[(0, .tmp 5), (1, .tmp 8)], 29, "l04_carts.go:95", #[⟨2, .data⟩, ⟨5, .data⟩], none⟩ ?_
 (try simp only [Act.put, u1, u2, u3])
 obtain ⟨r0, r1⟩ := pair_cells HT2.out.snd
 obtain ⟨fz0, fz1⟩ := pair_frozen HT2.out.snd
 have hS3 : ((w2.setCell ⟨w.heap.size + 1, 0, none⟩ (.slice va xs.length vc)).setCell ⟨w.heap.size + 1, 1, none⟩ (.slice oa l.length oc)).cell? ⟨w.heap.size, 0, none⟩ = some (.slice (some ⟨g, off, none⟩) nv cv) ∧ ((w2.setCell ⟨w.heap.size + 1, 0, none⟩ (.slice va xs.length vc)).setCell ⟨w.heap.size + 1, 1, none⟩ (.slice oa l.length oc)).cell? ⟨w.heap.size, 1, none⟩ = some (.slice ao no co) := pair_cells ((pair_other _ _ (by omega)).trans HT2.out.fst)
 refine rk 7 rfl (fun K hK => ?_)
 go_simp
 refine hK.out _ _ hS3 (fun hHeld4 => ?_)
 clear hK K
 (try simp only [Act.put, u1, u2, u3])
 refine wpAnyH_done (by kernel_rfl) ?_ _
 have HXr : Hid (((w2.setCell ⟨w.heap.size + 1, 0, none⟩ (.slice va xs.length vc)).setCell ⟨w.heap.size + 1, 1, none⟩ (.slice oa l.length oc)).heap[w.heap.size + 1]? = some (.cells #[.slice va xs.length vc, .slice oa l.length oc] 29 (0, 0))) := pair_set _ _ HT2.out.snd
 have HBr2 : Hid (Below w.heap.size w ((w2.setCell ⟨w.heap.size + 1, 0, none⟩ (.slice va xs.length vc)).setCell ⟨w.heap.size + 1, 1, none⟩ (.slice oa l.length oc))) := (HT2.out.bel.setCell (by show _ ≤ w.heap.size + 1; omega) _).setCell (by show _ ≤ w.heap.size + 1; omega) _
 have HOv7 : Hid (Own ((w2.setCell ⟨w.heap.size + 1, 0, none⟩ (.slice va xs.length vc)).setCell ⟨w.heap.size + 1, 1, none⟩ (.slice oa l.length oc)) z0.heap.size w1.heap.size va xs.length xs) := HV2.out.kept fun q h1 h2 => pair_other _ _ (by omega)
 have HOp7 : Hid (OwnOps ((w2.setCell ⟨w.heap.size + 1, 0, none⟩ (.slice va xs.length vc)).setCell ⟨w.heap.size + 1, 1, none⟩ (.slice oa l.length oc)) w1.heap.size w2.heap.size oa l.length l) := HP2.out.kept fun q h1 h2 => pair_other _ _ (by omega)
 have hsz7 : ((w2.setCell ⟨w.heap.size + 1, 0, none⟩ (.slice va xs.length vc)).setCell ⟨w.heap.size + 1, 1, none⟩ (.slice oa l.length oc)).heap.size = w2.heap.size := pair_size _ _ _ _
 clear hS hS1 hS2 hS3 hHeld2 hHeld3 hHeld4 r0 r1 fz0 fz1
 generalize (w2.setCell ⟨w.heap.size + 1, 0, none⟩ (.slice va xs.length vc)).setCell ⟨w.heap.size + 1, 1, none⟩ (.slice oa l.length oc) = wf at HXr HBr2 HOv7 HOp7 hsz7 ⊢
 apply hKR
 obtain ⟨q0, q1⟩ := pair_cells HXr.out
 go_wp2
 exact bodyPost_ret (v := .agg #[.slice va xs.length vc, .slice oa l.length oc]) (by simp [results, Try.results53, go_sem, q0, q1]) rfl ⟨va, vc, oa, oc, w1.heap.size, rfl, HOv7.out.more (by omega) (Nat.le_refl _), HOp7.out.more (Nat.le_refl _) (by omega), by omega, by omega, HBr2.out, HCp.out⟩
set_option linter.unusedSimpArgs false in
set_option maxHeartbeats 40000000 in
theorem implDeltaK (w : World) (B : Nat) (av ao bv bo : Option Addr) (nv cv no co mv dv mo eo : Nat) (xs : List Int) (l : List OpV) (ys : List Int) (m : List OpV) (hx : Ints w B av nv xs) (h : Ops w B ao no l) (hy : Ints w B bv mv ys) (g : Ops w B bo mo m) (hB : B ≤ w.heap.size) (hv : nv ≤ 1048576) (hc : no ≤ co) (hc2 : Fits no co) (hm : ∀ i, i < no → (atOp l i).item.size ≤ 1048576) (hv2 : mv ≤ 1048576) (he : mo ≤ eo) (he2 : Fits mo eo) (hm2 : ∀ i, i < mo → (atOp m i).item.size ≤ 1048576) :
  Calls Try.prog 21 #[.agg #[.slice av nv cv, .slice ao no co], .agg #[.slice bv mv dv, .slice bo mo eo]] w (CartPostK (mergedB xs l ys m) (delVs xs (mergedB xs l ys m)) (delOs l m (mergedB xs l ys m)) w) := by
 have hn1048 : no ≤ 1048576 := hc2.1
 have he1048 : mo ≤ 1048576 := he2.1
 obtain ⟨i0, hi0', hz0, hz1, hz2⟩ := info_parts Try.infoOp
 have hT := TriF.mk0 w #[.slice av nv cv, .slice ao no co] #[.slice bv mv dv, .slice bo mo eo] #[.slice none 0 0, .slice none 0 0] 29 29 29
 have HV := Lib.hid (hx.below hT.bel hB)
 have HO := Lib.hid (h.below hT.bel hB)
 have HY := Lib.hid (hy.below hT.bel hB)
 have HG := Lib.hid (g.below hT.bel hB)
 have HT := Lib.hid hT
 have HLx := Lib.hid hx.1
 have HL := Lib.hid h.1
 have HLm := Lib.hid g.1
 have HM := Lib.hid hm
 have HM2 := Lib.hid hm2
 have hBw := hB
 have hn : no ≤ 1048576 := hc2.1
 have hn2 : mo ≤ 1048576 := he2.1
 clear hx h hy g hT hm hm2 hB
 go_enter Try.func21, Try.ntmps21
 go_wp2_with fail
 generalize ((w.alloc (.cells #[.slice av nv cv, .slice ao no co] 29)).alloc (.cells #[.slice bv mv dv, .slice bo mo eo] 29)).alloc (.cells #[.slice none 0 0, .slice none 0 0] 29) = w0 at HV HO HY HG HT ⊢
 have hsz0 := HT.out.bel.size
 have hsz1 := lt_of_row HT.out.res
 refine (implMerged w0 B av ao bv bo nv cv no co mv dv mo eo xs l ys m HV.out HO.out HY.out HG.out (by omega) hv hc hc2 HM.out hv2 he he2 HM2.out).mono ?_
 rintro e w1 ⟨gva, gvc, goa, goc, gm, rfl, -, -, -, -, hb1⟩
 have HV1 := Lib.hid (HV.out.below hb1 (by omega))
 have HO1 := Lib.hid (HO.out.below hb1 (by omega))
 have HG1 := Lib.hid (HG.out.below hb1 (by omega))
 have HT1 := Lib.hid (HT.out.next hb1)
 have hs1 := hb1.size
 clear hb1 HV HO HY HG HT
 generalize mergedV xs ys (mergedB xs l ys m) = gzs
 generalize mergedO xs ys l m (mergedB xs l ys m) = gls
 obtain ⟨R, hR⟩ : ∃ R, mergedB xs l ys m = R := ⟨_, rfl⟩
 have HR := Lib.hid hR
 clear hR
 rw [HR.out]
 go_upto_region 2 with fail
 have hb2 : Below w1.heap.size w1 (w1.alloc (.cells #[.slice gva gzs.length gvc, .slice goa gls.length goc] 29)) := bl
 generalize w1.alloc (.cells #[.slice gva gzs.length gvc, .slice goa gls.length goc] 29) = w2 at hb2 ⊢
 have HV2 := Lib.hid (HV1.out.below hb2 (by omega))
 have HO2 := Lib.hid (HO1.out.below hb2 (by omega))
 have HG2 := Lib.hid (HG1.out.below hb2 (by omega))
 have HT2 := Lib.hid (HT1.out.next hb2)
 have hs2 := hb2.size
 clear hb2 HV1 HO1 HG1 HT1
 cases R
 ·obtain ⟨r0, r1⟩ := pair_cells HT2.out.res
  obtain ⟨fz0, fz1⟩ := pair_frozen HT2.out.res
  have HXr := Lib.hid (HT2.out.set2 (.slice none 0 0) (.slice none 0 0)).1
  have HBr2 := Lib.hid (HT2.out.set2 (.slice none 0 0) (.slice none 0 0)).2
  go_wp2
  change bodyPost _ _ _ _ _ ((w2.setCell ⟨w.heap.size + 1 + 1, 0, none⟩ (.slice none 0 0)).setCell ⟨w.heap.size + 1 + 1, 1, none⟩ (.slice none 0 0))
  generalize (w2.setCell ⟨w.heap.size + 1 + 1, 0, none⟩ (.slice none 0 0)).setCell ⟨w.heap.size + 1 + 1, 1, none⟩ (.slice none 0 0) = wf at HXr HBr2 ⊢
  obtain ⟨q0, q1⟩ := pair_cells HXr.out
  have hsf := HBr2.out.size
  rw [HR.out]
  exact bodyPost_ret (v := .tuple #[.agg #[.slice none 0 0, .slice none 0 0], .bool false]) (by simp [results, Try.results21, go_sem, q0, q1]) rfl ⟨none, 0, none, 0, w.heap.size, rfl, own_nil _ _ _ _, own_none _ _ _ _, Nat.le_refl _, hsf, HBr2.out, caps_nil⟩
 have hmc := merged_carts HR.out
 have HInc := Lib.hid (cart_inc hmc.2.1)
 have hx4 : xs.length = 4 := (vec_at (cart_true hmc.1).1 (d := 0) (by omega)).2.2
 have hnv0 : 0 < nv := by rw [← HLx.out, hx4]; omega
 clear hmc hx4
 obtain ⟨b0, b1⟩ := pair_cells HT2.out.snd
 go_wp2_with fail
 refine (numbered w2 bo mo eo).mono ?_
 rintro e w3 ⟨rfl, hb3⟩
 have HV3 := Lib.hid (HV2.out.below hb3 (by omega))
 have HO3 := Lib.hid (HO2.out.below hb3 (by omega))
 have HG3 := Lib.hid (HG2.out.below hb3 (by omega))
 have HT3 := Lib.hid (HT2.out.next hb3)
 have hs3 := hb3.size
 clear hb3 HV2 HO2 HG2 HT2 b0 b1
 go_upto_region 5 with fail
 have hb4 : Below w3.heap.size w3 (w3.alloc (.cells #[.slice bo mo eo, .func (.func 105) #[] #[]] 72)) := bl
 have HN4 := Lib.hid (boxAt (Below.refl _ (w3.alloc (.cells #[.slice bo mo eo, .func (.func 105) #[] #[]] 72))))
 have hn4 : w3.heap.size + 1 ≤ (w3.alloc (.cells #[.slice bo mo eo, .func (.func 105) #[] #[]] 72)).heap.size := by show _ ≤ (w3.heap.push _).size; simp
 generalize w3.alloc (.cells #[.slice bo mo eo, .func (.func 105) #[] #[]] 72) = w4 at hb4 HN4 hn4 ⊢
 have HV4 := Lib.hid (HV3.out.below hb4 (by omega))
 have HO4 := Lib.hid (HO3.out.below hb4 (by omega))
 have HG4 := Lib.hid (HG3.out.below hb4 (by omega))
 have HT4 := Lib.hid (HT3.out.next hb4)
 have hs4 := hb4.size
 generalize w3.heap.size = nb at HN4 hn4 hs3 hs4 ⊢
 clear hb4 HV3 HO3 HG3 HT3
 obtain ⟨b0, b1⟩ := pair_cells HT4.out.fst
 go_wp2
 go_loopw [9, 29] (fun v i wr => ∃ (k : Nat) (vv : Value), k ≤ no ∧ vv = v ∧ i = .int .i64 (k : Int) ∧ Hid (wr.ownsRow (nb + 1) 77 8 v ((l.take k).filter (delB m)).length (opCells ((l.take k).filter (delB m)))) ∧ Hid (Below (nb + 1) w4 wr)) (fun _ i _ => no - (intOf i).toNat)
 case atStart => exact ⟨0, _, Nat.zero_le _, rfl, rfl, World.ownsRow_nil _ _ _ _, Below.refl _ _⟩
 case round =>
  obtain ⟨k, vv, hk, hvv, rfl, HRw, HBr⟩ := hrel
  subst hvv
  clear b0 b1
  have hsr := HBr.out.size
  by_cases hlt : k < no
  rotate_left
  ·obtain rfl : no = k := by omega
   have HTk : Hid (l.take no = l) := by show _ = _; rw [← HL.out]; exact List.take_length
   rw [HTk.out] at HRw
   have HIt := Lib.hid (filt_items2 (q := delB m) (m := l) (N := 1048576) (fun i hi => HM.out i (by rw [← HL.out]; exact hi)))
   have hlenL : (l.filter (delB m)).length ≤ 1048576 := by have := List.length_filter_le (delB m) l; have := HL.out; omega
   have HE : Hid (delOs l m true = l.filter (delB m)) := by show _ = _; rfl
   generalize l.filter (delB m) = L at HRw HE HIt hlenL
   have HP : Hid (∃ a c, vv = .slice a L.length c ∧ (a = none → c = 0) ∧ OwnOps wr (nb + 1) wr.heap.size a L.length L ∧ (∀ x, a = some x → ∃ g o, x = ⟨g, o, none⟩)) := by
    have hr := HRw.out
    rcases hr.2 with ⟨e, e2⟩ | ⟨g, c, cur, e, r⟩
    ·subst e
     rw [e2] at hr ⊢
     exact ⟨none, 0, rfl, fun _ => rfl, own_of_cells hr (Nat.le_refl _), fun x h => by cases h⟩
    ·subst e
     exact ⟨_, c, rfl, (fun h => by cases h), own_of_cells hr (Nat.le_refl _), fun x h => by injection h with h; exact ⟨g, 0, h.symm⟩⟩
   obtain ⟨ra, rc, rfl, hrc, hown, had⟩ := HP.out
   have HOo := Lib.hid hown
   have HRc := Lib.hid hrc
   have HAd := Lib.hid had
   clear hown hrc had HP HRw
   have HTr : Hid (TriF w wr #[.slice av nv cv, .slice ao no co] #[.slice bv mv dv, .slice bo mo eo] #[.slice none 0 0, .slice none 0 0] 29 29 29) := ⟨(HBr.out.block _ (by omega)).trans HT4.out.fst, (HBr.out.block _ (by omega)).trans HT4.out.snd, (HBr.out.block _ (by omega)).trans HT4.out.res, HT4.out.bel.trans (HBr.out.mono (by omega))⟩
   have HVr := Lib.hid (HV4.out.below HBr.out (by omega))
   obtain ⟨vb, vo, rfl, -, -⟩ := HVr.out.2 0 hnv0
   obtain ⟨a0, a1⟩ := pair_cells HTr.out.fst
   go_wp2_with fail
   refine (copiedCartK wr wr.heap.size vb vo ra nv cv L.length rc xs L (HVr.out.more (by omega)) HOo.out.ops (Nat.le_refl _) hnv0 hv hlenL HRc.out HAd.out HIt.out).mono ?_
   rintro e w5 ⟨va, vc, oa, oc, md, rfl, hov, hop, hm1, hm2, hb5, hcq⟩
   have HT5 := Lib.hid (HTr.out.next hb5)
   have HOw5 := Lib.hid hov
   have HCq := Lib.hid hcq
   have HOp5 := Lib.hid hop
   have hs5 := hb5.size
   clear hov hop hb5 HTr HVr HOo a0 a1
   obtain ⟨r0, r1⟩ := pair_cells HT5.out.res
   obtain ⟨fz0, fz1⟩ := pair_frozen HT5.out.res
   have HXr := Lib.hid (HT5.out.set2 (.slice va xs.length vc) (.slice oa L.length oc)).1
   have HBr2 := Lib.hid (HT5.out.set2 (.slice va xs.length vc) (.slice oa L.length oc)).2
   have HOv7 : Hid (Own ((w5.setCell ⟨w.heap.size + 1 + 1, 0, none⟩ (.slice va xs.length vc)).setCell ⟨w.heap.size + 1 + 1, 1, none⟩ (.slice oa L.length oc)) wr.heap.size md va xs.length xs) := HOw5.out.kept fun q h1 h2 => pair_other _ _ (by omega)
   have HOp7 : Hid (OwnOps ((w5.setCell ⟨w.heap.size + 1 + 1, 0, none⟩ (.slice va xs.length vc)).setCell ⟨w.heap.size + 1 + 1, 1, none⟩ (.slice oa L.length oc)) md w5.heap.size oa L.length L) := HOp5.out.kept fun q h1 h2 => pair_other _ _ (by omega)
   have hsz7 : ((w5.setCell ⟨w.heap.size + 1 + 1, 0, none⟩ (.slice va xs.length vc)).setCell ⟨w.heap.size + 1 + 1, 1, none⟩ (.slice oa L.length oc)).heap.size = w5.heap.size := pair_size _ _ _ _
   go_wp2
   change bodyPost _ _ _ _ _ ((w5.setCell ⟨w.heap.size + 1 + 1, 0, none⟩ (.slice va xs.length vc)).setCell ⟨w.heap.size + 1 + 1, 1, none⟩ (.slice oa L.length oc))
   generalize (w5.setCell ⟨w.heap.size + 1 + 1, 0, none⟩ (.slice va xs.length vc)).setCell ⟨w.heap.size + 1 + 1, 1, none⟩ (.slice oa L.length oc) = wf at HXr HBr2 HOv7 HOp7 hsz7 ⊢
   obtain ⟨q0, q1⟩ := pair_cells HXr.out
   rw [HR.out, HE.out]
   exact bodyPost_ret (v := .tuple #[.agg #[.slice va xs.length vc, .slice oa L.length oc], .bool true]) (by simp [results, Try.results21, go_sem, q0, q1]) rfl ⟨va, vc, oa, oc, md, rfl, HOv7.out.more (by omega) (Nat.le_refl _), HOp7.out.more (Nat.le_refl _) (by omega), by omega, by omega, HBr2.out, HCq.out⟩
  have HSt := Lib.hid (filt_step (q := delB m) (l := l) (k := k) (by rw [HL.out]; exact hlt))
  have HOr := Lib.hid (HO4.out.below HBr.out (by omega))
  have HGr := Lib.hid (HG4.out.below HBr.out (by omega))
  have HNr := Lib.hid ((HBr.out.block _ (by omega)).trans HN4.out)
  obtain ⟨b, off, rfl, hb, ho⟩ := HOr.out.2 k hlt
  have HOk : Hid (OpAt wr b (off + k * 8) (atOp l k)) := ho
  have hlen : ((l.take k).filter (delB m)).length ≤ 1048576 := by
   have := List.length_filter_le (delB m) (l.take k)
   have := List.length_take_le k l
   omega
  have HTn : Hid ((∀ j, j < m.length → ¬ eqN m j (atOp l k).dev (atOp l k).seq) → delB m (atOp l k) = true) := fun h => delB_none h
  have HTy : Hid (∀ i, i < m.length → eqN m i (atOp l k).dev (atOp l k).seq → delB m (atOp l k) = decide ((atOp m i).undos < (atOp l k).undos)) := fun i hi e => delB_at HInc.out hi e
  clear ho HOr
  generalize (l.take k).filter (delB m) = L at HRw HSt hlen
  generalize atOp l k = x at HOk HSt HTn HTy
  obtain ⟨d0, d1, d2, d3, d4, d5, d6, d7⟩ := HOk.out
  have hki : (k : Int) < (no : Int) := by omega
  go_upto_region 9 with fail
  have hb5 : Below wr.heap.size wr (wr.alloc (.cells #[.int .i64 x.dev, .int .i64 x.seq, .int .i64 x.stamp, .int .i64 x.kind, .string x.item, .int .i64 x.qty, .int .i64 x.level, .int .i64 x.undos] 77)) := bl
  have HXo := Lib.hid (boxAt (Below.refl _ (wr.alloc (.cells #[.int .i64 x.dev, .int .i64 x.seq, .int .i64 x.stamp, .int .i64 x.kind, .string x.item, .int .i64 x.qty, .int .i64 x.level, .int .i64 x.undos] 77))))
  have HOw5 := Lib.hid (own_row_kept HRw.out hb5)
  have HG5 := Lib.hid (HGr.out.below hb5 (by omega))
  have HN5 := Lib.hid ((hb5.block _ (by omega)).trans HNr.out)
  have HB5 := Lib.hid (HBr.out.trans (hb5.mono (by omega)))
  have hs5 := hb5.size
  generalize wr.alloc (.cells #[.int .i64 x.dev, .int .i64 x.seq, .int .i64 x.stamp, .int .i64 x.kind, .string x.item, .int .i64 x.qty, .int .i64 x.level, .int .i64 x.undos] 77) = w5 at hb5 HXo HOw5 HG5 HN5 HB5 hs5 ⊢
  generalize wr.heap.size = ob at HXo hs5 hsr ⊢
  clear hb5 HRw HGr HNr HOk d0 d1 d2 d3 d4 d5 d6 d7 HBr
  obtain ⟨p0, p1⟩ := pair_cells HN5.out
  obtain ⟨d0, d1, d2, d3, d4, d5, d6, d7⟩ := op_cells HXo.out
  go_wp2_with fail
  refine (counterpart w5 B bo mo eo m x HG5.out (by omega) hn2 HInc.out).mono ?_
  rintro e w6 ⟨⟨v, rfl, hlk⟩, hb6⟩
  have HLk := Lib.hid hlk
  have HOw6 := Lib.hid (own_row_kept HOw5.out hb6)
  have HXo6 := Lib.hid ((hb6.block _ (Array.getElem?_eq_some_iff.1 HXo.out).1).trans HXo.out)
  have HB6 := Lib.hid (HB5.out.trans (hb6.mono (by omega)))
  have hs6 := hb6.size
  clear hlk hb6 HOw5 HXo HG5 HN5 HB5 p0 p1 d0 d1 d2 d3 d4 d5 d6 d7
  rcases HLk.out with ⟨i, hi, hei, rfl⟩ | ⟨hnone, rfl⟩
  rotate_left
  ·have HE : Hid ((l.take (k + 1)).filter (delB m) = L ++ [x]) := by show _ = _; rw [HSt.out, HTn.out hnone]; rfl
   clear hnone HLk
   go_upto_region 10 with fail
   have hb7 : Below w6.heap.size w6 (w6.alloc (.cells #[.int .i64 0, .int .i64 0, .int .i64 0, .int .i64 0, .string ⟨#[]⟩, .int .i64 0, .int .i64 0, .int .i64 0] 77)) := bl
   have HZo := Lib.hid (boxAt (Below.refl _ (w6.alloc (.cells #[.int .i64 0, .int .i64 0, .int .i64 0, .int .i64 0, .string ⟨#[]⟩, .int .i64 0, .int .i64 0, .int .i64 0] 77))))
   have HOw7 := Lib.hid (own_row_kept HOw6.out hb7)
   have HXo7 := Lib.hid ((hb7.block _ (Array.getElem?_eq_some_iff.1 HXo6.out).1).trans HXo6.out)
   have HB7 := Lib.hid (HB6.out.trans (hb7.mono (by omega)))
   have hs7 := hb7.size
   generalize w6.alloc (.cells #[.int .i64 0, .int .i64 0, .int .i64 0, .int .i64 0, .string ⟨#[]⟩, .int .i64 0, .int .i64 0, .int .i64 0] 77) = w7 at hb7 HZo HOw7 HXo7 HB7 hs7 ⊢
   generalize w6.heap.size = zb at HZo hs7 hs6 ⊢
   clear hb7 HOw6 HXo6 HB6
   obtain ⟨d0, d1, d2, d3, d4, d5, d6, d7⟩ := op_cells HXo7.out
   obtain ⟨e0, e1, e2, e3, e4, e5, e6, e7⟩ := op_cells HZo.out
   have hsy : w4.heap.size ≤ w7.heap.size := by omega
   have hown1 := HOw7.out.alloc (.cells #[.int .i64 x.dev, .int .i64 x.seq, .int .i64 x.stamp, .int .i64 x.kind, .string x.item, .int .i64 x.qty, .int .i64 x.level, .int .i64 x.undos] 77)
   go_wp2_with (at_builtin; refine wpList_append_own _ rfl _ _ 27 rfl (nb + 1) 77 i0 (.agg #[.int .i64 0, .int .i64 0, .int .i64 0, .int .i64 0, .string ⟨#[]⟩, .int .i64 0, .int .i64 0, .int .i64 0]) 8 72 Try.underlying27 hi0' hz0 hz1 hz2 rfl (by decide) _ _ _ rfl hown1 ⟨w7.heap.size, 0, none⟩ 1 1 (opRow x) rfl ?c0 ?c1 ?c2 ?c3 ?c4 ?c5 ?_)
   case c0 => rfl
   case c1 => exact opRow_new w7 x
   case c2 =>
    intro u hu
    exact opCells_one [x] u (by show u ∈ opRow x ++ []; rw [List.append_nil]; exact hu)
   case c3 => unfold maxLen; omega
   case c4 => omega
   case c5 => simp; omega
   intro v' z3 hown2 hgrow _
   have HB2 := Lib.hid ((HB7.out.alloc (by omega) (.cells #[.int .i64 x.dev, .int .i64 x.seq, .int .i64 x.stamp, .int .i64 x.kind, .string x.item, .int .i64 x.qty, .int .i64 x.level, .int .i64 x.undos] 77)).grown hgrow (by simp; omega) (fun j hj => (hown1.lt j hj).1))
   have HR2 : Hid (z3.ownsRow (nb + 1) 77 8 v' ((l.take (k + 1)).filter (delB m)).length (opCells ((l.take (k + 1)).filter (delB m)))) := by
    show World.ownsRow _ _ _ _ _ _ _
    rw [HE.out, opCells_snoc, List.length_append]
    exact hown2
   clear hown2 hgrow hown1 HOw7 d0 d1 d2 d3 d4 d5 d6 d7 e0 e1 e2 e3 e4 e5 e6 e7
   go_wp2
   go_roundw
   case rel => exact ⟨k + 1, _, by omega, rfl, by go_num, HR2, HB2⟩
   case measure => simp [intOf]; omega
  have HTg := Lib.hid (HTy.out i hi hei)
  clear hei HLk
  generalize atOp m i = y at HTg ⊢
  obtain ⟨tb, htb⟩ : ∃ b, decide (y.undos < x.undos) = b := ⟨_, rfl⟩
  rw [htb] at HTg
  have HTb := Lib.hid htb
  clear htb
  unfold opVal
  go_upto_region 10 with fail
  have hb7 : Below w6.heap.size w6 (w6.alloc (.cells #[.int .i64 y.dev, .int .i64 y.seq, .int .i64 y.stamp, .int .i64 y.kind, .string y.item, .int .i64 y.qty, .int .i64 y.level, .int .i64 y.undos] 77)) := bl
  have HZo := Lib.hid (boxAt (Below.refl _ (w6.alloc (.cells #[.int .i64 y.dev, .int .i64 y.seq, .int .i64 y.stamp, .int .i64 y.kind, .string y.item, .int .i64 y.qty, .int .i64 y.level, .int .i64 y.undos] 77))))
  have HOw7 := Lib.hid (own_row_kept HOw6.out hb7)
  have HXo7 := Lib.hid ((hb7.block _ (Array.getElem?_eq_some_iff.1 HXo6.out).1).trans HXo6.out)
  have HB7 := Lib.hid (HB6.out.trans (hb7.mono (by omega)))
  have hs7 := hb7.size
  generalize w6.alloc (.cells #[.int .i64 y.dev, .int .i64 y.seq, .int .i64 y.stamp, .int .i64 y.kind, .string y.item, .int .i64 y.qty, .int .i64 y.level, .int .i64 y.undos] 77) = w7 at hb7 HZo HOw7 HXo7 HB7 hs7 ⊢
  generalize w6.heap.size = zb at HZo hs7 hs6 ⊢
  clear hb7 HOw6 HXo6 HB6
  obtain ⟨d0, d1, d2, d3, d4, d5, d6, d7⟩ := op_cells HXo7.out
  obtain ⟨e0, e1, e2, e3, e4, e5, e6, e7⟩ := op_cells HZo.out
  have hsy : w4.heap.size ≤ w7.heap.size := by omega
  cases tb
  ·have HE : Hid ((l.take (k + 1)).filter (delB m) = L) := by show _ = _; rw [HSt.out, HTg.out]; rfl
   have hdt := HTb.out
   have hnl : ¬ y.undos < x.undos := of_decide_eq_false hdt
   have HRe := HOw7
   rw [← HE.out] at HRe
   go_wp2
   go_roundw
   case rel => exact ⟨k + 1, _, by omega, rfl, by go_num, HRe, HB7⟩
   case measure => simp [intOf]; omega
  have HE : Hid ((l.take (k + 1)).filter (delB m) = L ++ [x]) := by show _ = _; rw [HSt.out, HTg.out]; rfl
  have hdt := HTb.out
  have hyl : y.undos < x.undos := of_decide_eq_true hdt
  have hown1 := HOw7.out.alloc (.cells #[.int .i64 x.dev, .int .i64 x.seq, .int .i64 x.stamp, .int .i64 x.kind, .string x.item, .int .i64 x.qty, .int .i64 x.level, .int .i64 x.undos] 77)
  go_wp2_with (at_builtin; refine wpList_append_own _ rfl _ _ 27 rfl (nb + 1) 77 i0 (.agg #[.int .i64 0, .int .i64 0, .int .i64 0, .int .i64 0, .string ⟨#[]⟩, .int .i64 0, .int .i64 0, .int .i64 0]) 8 72 Try.underlying27 hi0' hz0 hz1 hz2 rfl (by decide) _ _ _ rfl hown1 ⟨w7.heap.size, 0, none⟩ 1 1 (opRow x) rfl ?c0 ?c1 ?c2 ?c3 ?c4 ?c5 ?_)
  case c0 => rfl
  case c1 => exact opRow_new w7 x
  case c2 =>
   intro u hu
   exact opCells_one [x] u (by show u ∈ opRow x ++ []; rw [List.append_nil]; exact hu)
  case c3 => unfold maxLen; omega
  case c4 => omega
  case c5 => simp; omega
  intro v' z3 hown2 hgrow _
  have HB2 := Lib.hid ((HB7.out.alloc (by omega) (.cells #[.int .i64 x.dev, .int .i64 x.seq, .int .i64 x.stamp, .int .i64 x.kind, .string x.item, .int .i64 x.qty, .int .i64 x.level, .int .i64 x.undos] 77)).grown hgrow (by simp; omega) (fun j hj => (hown1.lt j hj).1))
  have HR2 : Hid (z3.ownsRow (nb + 1) 77 8 v' ((l.take (k + 1)).filter (delB m)).length (opCells ((l.take (k + 1)).filter (delB m)))) := by
   show World.ownsRow _ _ _ _ _ _ _
   rw [HE.out, opCells_snoc, List.length_append]
   exact hown2
  clear hown2 hgrow hown1 HOw7 d0 d1 d2 d3 d4 d5 d6 d7 e0 e1 e2 e3 e4 e5 e6 e7
  go_wp2
  go_roundw
  case rel => exact ⟨k + 1, _, by omega, rfl, by go_num, HR2, HB2⟩
  case measure => simp [intOf]; omega
end Go.Proofs.Ytdbdmfaphdjdpaa

/- The walks of spec.l7Delta and spec.DeltaOf. -/
namespace Go.Proofs.Ytdbdmfaphdjdpaa
set_option maxRecDepth 100000
open Go.RowKit

def OutD (ob vb zc : Nat) (L : List OpV) (w2 wr : World) : Prop :=
 ∃ oa oc, wr.heap[ob]? = some (.cells #[.slice (some ⟨vb, 0, none⟩) 4 zc, .slice oa L.length oc] 29 (0, 0)) ∧ wr.ownsRow (ob + 1) 77 8 (.slice oa L.length oc) L.length (opCells L) ∧ Below ob w2 wr
theorem OutD.drew {ob vb zc : Nat} {L : List OpV} {w2 wr : World} (h : OutD ob vb zc L w2 wr) : OutD ob vb zc L w2 wr.drew := by
 obtain ⟨oa, oc, h1, h2, h3⟩ := h
 exact ⟨oa, oc, h1, h2.drew, ⟨h3.os, h3.tape, h3.output, h3.size, h3.block⟩⟩
/-- A row of operations of the call's own, that can grow. -/
def RowD (w w' : World) (oa : Option Addr) (oc : Nat) (L : List OpV) : Prop := Caps oa L.length oc ∧ ∃ base, w.heap.size ≤ base ∧ w'.ownsRow base 77 8 (.slice oa L.length oc) L.length (opCells L)
set_option linter.unusedSimpArgs false in
set_option maxHeartbeats 80000000 in
theorem l7Delta (w : World) (B : Nat) (av ao bv bo : Option Addr) (nv cv no co mv dv mo eo : Nat) (xs : List Int) (l : List OpV) (ys : List Int) (m : List OpV) (hx : Ints w B av nv xs) (h : Ops w B ao no l) (g : Ops w B bo mo m) (hB : B ≤ w.heap.size) (hn : no ≤ 1048576) (hn2 : mo ≤ 1048576) (hca : cartB xs l = true) (hcb : cartB ys m = true) :
  Calls Try.prog 74 #[.agg #[.slice av nv cv, .slice ao no co], .agg #[.slice bv mv dv, .slice bo mo eo]] w fun e w' => ∃ va vc oa oc, e = .returned (.agg #[.slice va xs.length vc, .slice oa (l.filter (delB m)).length oc]) ∧ Own w' w.heap.size w'.heap.size va xs.length xs ∧ OwnOps w' w.heap.size w'.heap.size oa (l.filter (delB m)).length (l.filter (delB m)) ∧ Below w.heap.size w w' ∧ RowD w w' oa oc (l.filter (delB m)) := by
 obtain ⟨i0, hi, hz0, hz1, hz2⟩ := info_parts Try.infoOp
 obtain ⟨i1, hi1, hy0, hy1, hy2⟩ := info_parts Try.infoI64
 have hT := TriF.mk0 w #[.slice av nv cv, .slice ao no co] #[.slice bv mv dv, .slice bo mo eo] #[.slice none 0 0, .slice none 0 0] 29 29 29
 have HV := Lib.hid (hx.below hT.bel hB)
 have HO := Lib.hid (h.below hT.bel hB)
 have HG := Lib.hid (g.below hT.bel hB)
 have HT := Lib.hid hT
 have HL := Lib.hid h.1
 have HLx := Lib.hid hx.1
 have HLm := Lib.hid g.1
 have hx4 : xs.length = 4 := (vec_at (cart_true hca).1 (d := 0) (by omega)).2.2
 obtain rfl : nv = 4 := by rw [← hx.1]; exact hx4
 have HX4 := Lib.hid hx4
 have HInc := Lib.hid (cart_inc hcb)
 have hBw := hB
 obtain ⟨gb, go, rfl, -, -⟩ := hx.2 0 (by omega)
 clear hx h g hT hB hca hcb hx4
 go_enter Try.func74, Try.ntmps74
 go_upto_region 1 with fail
 generalize ((w.alloc (.cells #[.slice (some ⟨gb, go, none⟩) 4 cv, .slice ao no co] 29)).alloc (.cells #[.slice bv mv dv, .slice bo mo eo] 29)).alloc (.cells #[.slice none 0 0, .slice none 0 0] 29) = w0 at HV HO HG HT ⊢
 have hsz0 := HT.out.bel.size
 have hsz1 := lt_of_row HT.out.res
 have hown : (w0.alloc (.cells #[] 2)).ownsRow w0.heap.size 2 1 (.slice (some ⟨w0.heap.size, 0, none⟩) 0 0) 0 [] := World.ownsRow_made w0 #[] 0 (Nat.le_refl _) (by unfold maxLen; omega) rfl
 have hba : Below w0.heap.size w0 (w0.alloc (.cells #[] 2)) := (Below.refl _ w0).alloc (Nat.le_refl _) _
 obtain ⟨a0, a1⟩ := pair_cells ((hba.block _ (by omega)).trans HT.out.fst)
 go_wp2_with (at_builtin; refine wpList_append_own _ rfl _ _ 22 rfl w0.heap.size 2 i1 (.int .i64 0) 1 8 Try.underlying22 hi1 hy0 hy1 hy2 rfl (by decide) _ _ _ rfl hown ⟨gb, go, none⟩ 4 cv (xs.map (Value.int .i64)) rfl ?c0 ?c1 ?c2 ?c3 ?c4 ?c5 ?_)
 case c0 => rw [List.length_map, HLx.out]
 case c1 =>
  intro j u hj
  have hjl : j < xs.length := by
   rcases Nat.lt_or_ge j xs.length with h' | h'
   ·exact h'
   ·rw [List.getElem?_eq_none (by simpa using h')] at hj; cases hj
  obtain ⟨b, off', e, hb, hc⟩ := HV.out.2 j (by rw [← HLx.out]; exact hjl)
  cases e
  have hlt := block_lt_of_cell hc
  rw [List.getElem?_map, List.getElem?_eq_getElem hjl] at hj
  cases hj
  rw [add_at, World.cell?_alloc_lt w0 _ _ hlt, hc, List.getD_eq_getElem?_getD, List.getElem?_eq_getElem hjl]
  rfl
 case c2 => exact ints_oneCell _ _
 case c3 => unfold maxLen; omega
 case c4 => omega
 case c5 => simp
 intro v' w1 hown' hgrow _
 have hb1 := hba.grown hgrow (by simp) (fun j hj => (hown.lt j hj).1)
 obtain ⟨vb, zc, hv, _, _⟩ := hown'.form (by omega)
 subst hv
 have HZ1 := Lib.hid (own_of_row (hi := w1.heap.size) (by simpa using hown') (Nat.le_refl _))
 have HO1 := Lib.hid (HO.out.below hb1 (by omega))
 have HG1 := Lib.hid (HG.out.below hb1 (by omega))
 have HT1 := Lib.hid (HT.out.next hb1)
 have hs1 := hb1.size
 clear hown' hgrow hown hb1 hba HV HO HG HT a0 a1
 go_upto_region 2 with fail
 have hb2 : Below w1.heap.size w1 (w1.alloc (.cells #[.slice (some ⟨vb, 0, none⟩) 4 zc, .slice none 0 0] 29)) := bl
 have HX2 := Lib.hid (boxAt (Below.refl _ (w1.alloc (.cells #[.slice (some ⟨vb, 0, none⟩) 4 zc, .slice none 0 0] 29))))
 have HO2 := Lib.hid (HO1.out.below hb2 (by omega))
 have HG2 := Lib.hid (HG1.out.below hb2 (by omega))
 have HT2 := Lib.hid (HT1.out.next hb2)
 have HZ2 := Lib.hid (HZ1.out.below hb2 (Nat.le_refl _))
 generalize w1.alloc (.cells #[.slice (some ⟨vb, 0, none⟩) 4 zc, .slice none 0 0] 29) = w2 at hb2 HX2 HO2 HG2 HT2 HZ2 ⊢
 have hs2 := hb2.size
 have hx2 := lt_of_row HX2.out
 generalize hob : w1.heap.size = ob at HX2 hs2 hx2 hs1 HZ2 ⊢
 clear hb2 HO1 HG1 HT1 HZ1 hob
 have HOut : Hid (OutD ob vb zc ((l.take 0).filter (delB m)) w2 w2) := ⟨none, 0, HX2.out, ⟨rfl, .inl ⟨rfl, rfl⟩⟩, Below.refl _ _⟩
 go_wp2
 go_loopw [6] (fun i wr => ∃ k : Nat, k ≤ no ∧ i = .int .i64 (k : Int) ∧ Hid (OutD ob vb zc ((l.take k).filter (delB m)) w2 wr)) (fun i _ => no - (intOf i).toNat)
 case atStart => exact ⟨0, Nat.zero_le _, rfl, HOut⟩
 case round =>
  obtain ⟨k, hk, rfl, HOu⟩ := hrel
  clear HOut HX2
  obtain ⟨oa, oc, hbox, hrow, hbel⟩ := HOu.out
  have HOB := Lib.hid hbox
  have HROW := Lib.hid hrow
  have HBL := Lib.hid hbel
  have hobl := lt_of_row hbox
  have HTr := Lib.hid (HT2.out.low hbel (by omega))
  have HOr := Lib.hid (HO2.out.below hbel (by omega))
  have HGr := Lib.hid (HG2.out.below hbel (by omega))
  have hsr := hbel.size
  obtain ⟨a0, a1⟩ := pair_cells HTr.out.fst
  obtain ⟨b0, b1⟩ := pair_cells HTr.out.snd
  by_cases hlt : k < no
  rotate_left
  ·obtain rfl : no = k := by omega
   have HTk : Hid (l.take no = l) := by show _ = _; rw [← HL.out]; exact List.take_length
   rw [HTk.out] at HOB HROW
   have HZr := Lib.hid (HZ2.out.below hbel (Nat.le_refl _))
   clear hbox hrow hbel HOu
   obtain ⟨L, hLq⟩ : ∃ L, l.filter (delB m) = L := ⟨_, rfl⟩
   rw [hLq] at HOB HROW
   have HLq := Lib.hid hLq
   clear hLq
   have HP : Hid (OwnOps wr (ob + 1) wr.heap.size oa L.length L) := own_of_cells HROW.out (Nat.le_refl _)
   obtain ⟨x0, x1⟩ := pair_cells HOB.out
   obtain ⟨r0, r1⟩ := pair_cells HTr.out.res
   obtain ⟨fz0, fz1⟩ := pair_frozen HTr.out.res
   have HXr := Lib.hid (HTr.out.set2S (.slice (some ⟨vb, 0, none⟩) 4 zc) (.slice oa L.length oc)).1
   have HBr2 := Lib.hid (HTr.out.set2S (.slice (some ⟨vb, 0, none⟩) 4 zc) (.slice oa L.length oc)).2
   have HsM : Hid (wr.heap.size = ((wr.setCell ⟨w.heap.size + 1 + 1, 0, none⟩ (.slice (some ⟨vb, 0, none⟩) 4 zc)).setCell ⟨w.heap.size + 1 + 1, 1, none⟩ (.slice oa L.length oc)).heap.size) := (pair_size _ _ _ _).symm
   have HZ6 : Hid (Own ((wr.setCell ⟨w.heap.size + 1 + 1, 0, none⟩ (.slice (some ⟨vb, 0, none⟩) 4 zc)).setCell ⟨w.heap.size + 1 + 1, 1, none⟩ (.slice oa L.length oc)) w0.heap.size ob (some ⟨vb, 0, none⟩) 4 xs) := HZr.out.kept fun j h1 h2 => pair_other _ _ (by omega)
   have HO6 : Hid (OwnOps ((wr.setCell ⟨w.heap.size + 1 + 1, 0, none⟩ (.slice (some ⟨vb, 0, none⟩) 4 zc)).setCell ⟨w.heap.size + 1 + 1, 1, none⟩ (.slice oa L.length oc)) (ob + 1) wr.heap.size oa L.length L) := HP.out.kept fun j h1 h2 => pair_other _ _ (by omega)
   have hneR : ∀ g, (Value.slice oa L.length oc).ownBlock = some g → g ≠ w.heap.size + 1 + 1 := fun g hg => by have := (HROW.out.lt g hg).1; omega
   have HRo : Hid (((wr.setCell ⟨w.heap.size + 1 + 1, 0, none⟩ (.slice (some ⟨vb, 0, none⟩) 4 zc)).setCell ⟨w.heap.size + 1 + 1, 1, none⟩ (.slice oa L.length oc)).ownsRow (ob + 1) 77 8 (.slice oa L.length oc) L.length (opCells L)) := row_put (row_put HROW.out hneR) hneR
   clear HROW HOB HBL
   go_wp2
   change bodyPost _ _ _ _ _ ((wr.setCell ⟨w.heap.size + 1 + 1, 0, none⟩ (.slice (some ⟨vb, 0, none⟩) 4 zc)).setCell ⟨w.heap.size + 1 + 1, 1, none⟩ (.slice oa L.length oc))
   generalize (wr.setCell ⟨w.heap.size + 1 + 1, 0, none⟩ (.slice (some ⟨vb, 0, none⟩) 4 zc)).setCell ⟨w.heap.size + 1 + 1, 1, none⟩ (.slice oa L.length oc) = wf at HXr HBr2 HZ6 HO6 HsM HRo ⊢
   obtain ⟨q0, q1⟩ := pair_cells HXr.out
   have hsm := HsM.out
   exact bodyPost_ret (v := .agg #[.slice (some ⟨vb, 0, none⟩) 4 zc, .slice oa L.length oc]) (by simp [results, Try.results74, go_sem, q0, q1]) rfl ⟨some ⟨vb, 0, none⟩, zc, oa, oc, by rw [HX4.out, HLq.out], by rw [HX4.out]; exact HZ6.out.more (by omega) (by omega), by rw [HLq.out]; exact HO6.out.more (by omega) (by omega), HBr2.out, by rw [HLq.out]; exact ⟨caps_of_row HRo.out, ob + 1, by omega, HRo.out⟩⟩
  clear hbox hrow hbel HOu
  skip
  have HSt := Lib.hid (filt_step (q := delB m) (l := l) (k := k) (by rw [HL.out]; exact hlt))
  obtain ⟨b, off, rfl, hb, ho⟩ := HOr.out.2 k hlt
  have HOk : Hid (OpAt wr b (off + k * 8) (atOp l k)) := ho
  have hlen : ((l.take k).filter (delB m)).length ≤ 1048576 := by
   have := List.length_filter_le (delB m) (l.take k)
   have := List.length_take_le k l
   omega
  have HTn : Hid ((∀ j, j < m.length → ¬ eqN m j (atOp l k).dev (atOp l k).seq) → delB m (atOp l k) = true) := fun h => delB_none h
  have HTy : Hid (∀ i, i < m.length → eqN m i (atOp l k).dev (atOp l k).seq → delB m (atOp l k) = decide ((atOp m i).undos < (atOp l k).undos)) := fun i hi e => delB_at HInc.out hi e
  clear ho HOr
  generalize (l.take k).filter (delB m) = L at HOB HROW HSt hlen
  generalize atOp l k = x at HOk HSt HTn HTy
  obtain ⟨d0, d1, d2, d3, d4, d5, d6, d7⟩ := HOk.out
  have hki : (k : Int) < (no : Int) := by omega
  have hS : wr.drew.cell? ⟨w.heap.size, 1, none⟩ = some (.slice (some ⟨b, off, none⟩) no co) ∧ wr.drew.cell? ⟨w.heap.size + 1, 1, none⟩ = some (.slice bo mo eo) ∧ wr.drew.cell? ⟨b, off + k * 8, none⟩ = some (.int .i64 x.dev) ∧ wr.drew.cell? ⟨b, off + k * 8 + 1, none⟩ = some (.int .i64 x.seq) := ⟨a1, b1, d0, d1⟩
  go_wp2_with fail
  refine wp_region_held_drew (S := fun w' => w'.cell? ⟨w.heap.size, 1, none⟩ = some (.slice (some ⟨b, off, none⟩) no co) ∧ w'.cell? ⟨w.heap.size + 1, 1, none⟩ = some (.slice bo mo eo) ∧ w'.cell? ⟨b, off + k * 8, none⟩ = some (.int .i64 x.dev) ∧ w'.cell? ⟨b, off + k * 8 + 1, none⟩ = some (.int .i64 x.seq)) (by kernel_rfl) hS (fun hHeld => ?_)
  refine tk 0 ⟨some 20, .fieldAddr 29 (.tmp 3) 1, 0, "l07_deltas.go:25", #[], none⟩ ?_
  (try simp only [Act.put, u1, u2, u3])
  refine tk 1 ⟨some 21, .load 27 (.tmp 20), 27, "l07_deltas.go:25", #[⟨0, .data⟩], none⟩ ?_
  (try simp only [Act.put, u1, u2, u3])
  refine tk 2 ⟨some 22, .fieldAddr 29 (.tmp 2) 1, 0, "l07_deltas.go:25", #[], none⟩ ?_
  (try simp only [Act.put, u1, u2, u3])
  refine tk 3 ⟨some 23, .load 27 (.tmp 22), 27, "l07_deltas.go:25", #[⟨2, .data⟩], none⟩ ?_
  (try simp only [Act.put, u1, u2, u3])
  refine tk 4 ⟨some 24, .move (.tmp 6), 3, "l07_deltas.go:25", #[], none⟩ ?_
  (try simp only [Act.put, u1, u2, u3])
  refine tk 5 ⟨some 25, .indexAddr 27 (.tmp 23) (.tmp 24), 0, "l07_deltas.go:25", #[⟨3, .data⟩, ⟨4, .data⟩], none⟩ ?_
  (try simp only [Act.put, u1, u2, u3])
  refine tk 6 ⟨some 26, .fieldAddr 77 (.tmp 25) 0, 0, "l07_deltas.go:25", #[⟨5, .data⟩], none⟩ ?_
  (try simp only [Act.put, u1, u2, u3])
  refine tk 7 ⟨some 27, .load 2 (.tmp 26), 2, "l07_deltas.go:25", #[⟨6, .data⟩], none⟩ ?_
  (try simp only [Act.put, u1, u2, u3])
  refine tk 8 ⟨some 28, .fieldAddr 29 (.tmp 2) 1, 0, "l07_deltas.go:25", #[], none⟩ ?_
  (try simp only [Act.put, u1, u2, u3])
  refine tk 9 ⟨some 29, .load 27 (.tmp 28), 27, "l07_deltas.go:25", #[⟨8, .data⟩], none⟩ ?_
  (try simp only [Act.put, u1, u2, u3])
  refine tk 10 ⟨some 30, .move (.tmp 6), 3, "l07_deltas.go:25", #[], none⟩ ?_
  (try simp only [Act.put, u1, u2, u3])
  refine tk 11 ⟨some 31, .indexAddr 27 (.tmp 29) (.tmp 30), 0, "l07_deltas.go:25", #[⟨9, .data⟩, ⟨10, .data⟩], none⟩ ?_
  (try simp only [Act.put, u1, u2, u3])
  refine tk 12 ⟨some 32, .fieldAddr 77 (.tmp 31) 1, 0, "l07_deltas.go:25", #[⟨11, .data⟩], none⟩ ?_
  (try simp only [Act.put, u1, u2, u3])
  refine tk 13 ⟨some 33, .load 2 (.tmp 32), 2, "l07_deltas.go:25", #[⟨12, .data⟩], none⟩ ?_
  (try simp only [Act.put, u1, u2, u3])
  refine rk 14 rfl (fun K hK => ?_)
  go_simp
  go_at_call 102
  refine (l4At wr.drew B bo mo eo m x.dev x.seq (HGr.out.kept fun _ _ => rfl) hn2).mono ?_
  rintro e w3 ⟨hres, rfl⟩
  obtain ⟨kk, HK, rfl⟩ : ∃ kk : Int, Hid ((∃ i : Nat, i < mo ∧ eqN m i x.dev x.seq ∧ kk = (i : Int)) ∨ ((∀ j, j < mo → ¬ eqN m j x.dev x.seq) ∧ kk = -1)) ∧ e = .returned (.int .i64 kk) := by
   rcases hres with ⟨i, q1, q2, rfl⟩ | ⟨q1, rfl⟩
   ·exact ⟨_, .inl ⟨i, q1, q2, rfl⟩, rfl⟩
   ·exact ⟨_, .inr ⟨q1, rfl⟩, rfl⟩
  refine hK.out _ _ hS (fun hHeld2 => ?_)
  clear hK K
  (try simp only [Act.put, u1, u2, u3])
  refine tk 15 ⟨some 7, .assign (.tmp 34), 3, "l07_deltas.go:25", #[⟨14, .data⟩, ⟨14, .chain⟩, ⟨0, .phase⟩, ⟨1, .phase⟩, ⟨2, .phase⟩, ⟨3, .phase⟩, ⟨4, .phase⟩, ⟨5, .phase⟩, ⟨6, .phase⟩, ⟨7, .phase⟩, ⟨8, .phase⟩, ⟨9, .phase⟩, ⟨10, .phase⟩, ⟨11, .phase⟩, ⟨12, .phase⟩, ⟨13, .phase⟩, ⟨14, .phase⟩], none⟩ ?_
  (try simp only [Act.put, u1, u2, u3])
  refine wpAnyH_done (by kernel_rfl) ?_ _
  clear hHeld2 hres a0 b0 HTr hsr
  have HOBd : Hid (wr.drew.heap[ob]? = some (.cells #[.slice (some ⟨vb, 0, none⟩) 4 zc, .slice oa L.length oc] 29 (0, 0))) := HOB.out
  have HROWd : Hid (wr.drew.ownsRow (ob + 1) 77 8 (.slice oa L.length oc) L.length (opCells L)) := HROW.out.drew
  have HBLd : Hid (Below ob w2 wr.drew) := ⟨HBL.out.os, HBL.out.tape, HBL.out.output, HBL.out.size, HBL.out.block⟩
  have HOkd : Hid (OpAt wr.drew b (off + k * 8) x) := HOk.out
  have hobd : ob < wr.drew.heap.size := hobl
  have HCd : Hid (wr.drew.cell? ⟨w.heap.size, 1, none⟩ = some (.slice (some ⟨b, off, none⟩) no co) ∧ wr.drew.cell? ⟨w.heap.size + 1, 1, none⟩ = some (.slice bo mo eo)) := ⟨a1, b1⟩
  have HGd : Hid (Ops wr.drew B bo mo m) := HGr.out.kept fun _ _ => rfl
  clear hS hHeld d0 d1 d2 d3 d4 d5 d6 d7 a1 b1 HOB HROW HBL HOk hobl HGr
  generalize wr.drew = y0 at HOBd HROWd HBLd HOkd hobd HCd HGd ⊢
  obtain ⟨a1, b1⟩ := HCd.out
  obtain ⟨d0, d1, d2, d3, d4, d5, d6, d7⟩ := HOkd.out
  have HOB := HOBd
  have HROW := HROWd
  have HBL := HBLd
  have HOk := HOkd
  have hobl := hobd
  have HGr := HGd
  clear HOBd HROWd HBLd HOkd hobd HCd HGd
  rcases HK.out with ⟨i, him, he, rfl⟩ | ⟨hnone, rfl⟩
  rotate_left
  ·have HE : Hid ((l.take (k + 1)).filter (delB m) = L ++ [x]) := by show _ = _; rw [HSt.out, HTn.out (by rw [HLm.out]; exact hnone)]; rfl
   clear hnone HK
   have hS : y0.drew.cell? ⟨w.heap.size, 1, none⟩ = some (.slice (some ⟨b, off, none⟩) no co) ∧ y0.drew.cell? ⟨w.heap.size + 1, 1, none⟩ = some (.slice bo mo eo) ∧ y0.drew.cell? ⟨b, off + k * 8, none⟩ = some (.int .i64 x.dev) ∧ y0.drew.cell? ⟨b, off + k * 8 + 1, none⟩ = some (.int .i64 x.seq) := ⟨a1, b1, d0, d1⟩
   go_wp2_with fail
   refine wp_region_held_drew (S := fun w' => w'.cell? ⟨w.heap.size, 1, none⟩ = some (.slice (some ⟨b, off, none⟩) no co) ∧ w'.cell? ⟨w.heap.size + 1, 1, none⟩ = some (.slice bo mo eo) ∧ w'.cell? ⟨b, off + k * 8, none⟩ = some (.int .i64 x.dev) ∧ w'.cell? ⟨b, off + k * 8 + 1, none⟩ = some (.int .i64 x.seq)) (by kernel_rfl) hS (fun hHeld => ?_)
   refine tk 0 ⟨some 35, .move (.tmp 7), 3, "l07_deltas.go:26", #[], none⟩ ?_
   (try simp only [Act.put, u1, u2, u3])
   refine tk 1 ⟨some 36, .binOp .lss 3 (.tmp 35) (.const (Value.int IntKind.i64 0)) 3, 4, "l07_deltas.go:26", #[⟨0, .data⟩], none⟩ ?_
   (try simp only [Act.put, u1, u2, u3])
   refine tk 2 ⟨some 37, .move (.tmp 36), 4, "l07_deltas.go:26", #[⟨1, .data⟩], none⟩ ?_
   (try simp only [Act.put, u1, u2, u3])
   refine sk 3 ⟨some 38, .fieldAddr 29 (.tmp 3) 1, 0, "l07_deltas.go:26", #[⟨2, .guard⟩], some (2, false)⟩ ?_
   (try simp only [Act.put, u1, u2, u3])
   refine sk 4 ⟨some 39, .load 27 (.tmp 38), 27, "l07_deltas.go:26", #[⟨3, .data⟩, ⟨2, .guard⟩], some (2, false)⟩ ?_
   (try simp only [Act.put, u1, u2, u3])
   refine sk 5 ⟨some 40, .move (.tmp 7), 3, "l07_deltas.go:26", #[⟨2, .guard⟩], some (2, false)⟩ ?_
   (try simp only [Act.put, u1, u2, u3])
   refine sk 6 ⟨some 41, .indexAddr 27 (.tmp 39) (.tmp 40), 0, "l07_deltas.go:26", #[⟨4, .data⟩, ⟨5, .data⟩, ⟨2, .guard⟩], some (2, false)⟩ ?_
   (try simp only [Act.put, u1, u2, u3])
   refine sk 7 ⟨some 42, .fieldAddr 77 (.tmp 41) 7, 0, "l07_deltas.go:26", #[⟨6, .data⟩, ⟨2, .guard⟩], some (2, false)⟩ ?_
   (try simp only [Act.put, u1, u2, u3])
   refine sk 8 ⟨some 43, .load 2 (.tmp 42), 2, "l07_deltas.go:26", #[⟨7, .data⟩, ⟨2, .guard⟩], some (2, false)⟩ ?_
   (try simp only [Act.put, u1, u2, u3])
   refine sk 9 ⟨some 44, .fieldAddr 29 (.tmp 2) 1, 0, "l07_deltas.go:26", #[⟨2, .guard⟩], some (2, false)⟩ ?_
   (try simp only [Act.put, u1, u2, u3])
   refine sk 10 ⟨some 45, .load 27 (.tmp 44), 27, "l07_deltas.go:26", #[⟨9, .data⟩, ⟨2, .guard⟩], some (2, false)⟩ ?_
   (try simp only [Act.put, u1, u2, u3])
   refine sk 11 ⟨some 46, .move (.tmp 6), 3, "l07_deltas.go:26", #[⟨2, .guard⟩], some (2, false)⟩ ?_
   (try simp only [Act.put, u1, u2, u3])
   refine sk 12 ⟨some 47, .indexAddr 27 (.tmp 45) (.tmp 46), 0, "l07_deltas.go:26", #[⟨10, .data⟩, ⟨11, .data⟩, ⟨2, .guard⟩], some (2, false)⟩ ?_
   (try simp only [Act.put, u1, u2, u3])
   refine sk 13 ⟨some 48, .fieldAddr 77 (.tmp 47) 7, 0, "l07_deltas.go:26", #[⟨12, .data⟩, ⟨2, .guard⟩], some (2, false)⟩ ?_
   (try simp only [Act.put, u1, u2, u3])
   refine sk 14 ⟨some 49, .load 2 (.tmp 48), 2, "l07_deltas.go:26", #[⟨13, .data⟩, ⟨2, .guard⟩], some (2, false)⟩ ?_
   (try simp only [Act.put, u1, u2, u3])
   refine sk 15 ⟨some 50, .binOp .lss 2 (.tmp 43) (.tmp 49) 2, 4, "l07_deltas.go:26", #[⟨8, .data⟩, ⟨14, .data⟩, ⟨2, .guard⟩], some (2, false)⟩ ?_
   (try simp only [Act.put, u1, u2, u3])
   refine tk 16 ⟨some 51, .pick (.tmp 37) (.const (Value.bool true)) (.tmp 50), 4, "l07_deltas.go:26", #[⟨2, .data⟩, ⟨15, .data⟩], none⟩ ?_
   (try simp only [Act.put, u1, u2, u3])
   refine wpAnyH_done (by kernel_rfl) ?_ _
   have HOBd : Hid (y0.drew.heap[ob]? = some (.cells #[.slice (some ⟨vb, 0, none⟩) 4 zc, .slice oa L.length oc] 29 (0, 0))) := HOB.out
   have HROWd : Hid (y0.drew.ownsRow (ob + 1) 77 8 (.slice oa L.length oc) L.length (opCells L)) := HROW.out.drew
   have HBLd : Hid (Below ob w2 y0.drew) := ⟨HBL.out.os, HBL.out.tape, HBL.out.output, HBL.out.size, HBL.out.block⟩
   have HOkd : Hid (OpAt y0.drew b (off + k * 8) x) := HOk.out
   have hobd : ob < y0.drew.heap.size := hobl
   have HCd : Hid (y0.drew.cell? ⟨w.heap.size, 1, none⟩ = some (.slice (some ⟨b, off, none⟩) no co) ∧ y0.drew.cell? ⟨w.heap.size + 1, 1, none⟩ = some (.slice bo mo eo)) := ⟨a1, b1⟩
   have HGd : Hid (Ops y0.drew B bo mo m) := HGr.out.kept fun _ _ => rfl
   clear hS hHeld d0 d1 d2 d3 d4 d5 d6 d7 a1 b1 HOB HROW HBL HOk hobl HGr
   generalize y0.drew = wr at HOBd HROWd HBLd HOkd hobd HCd HGd ⊢
   obtain ⟨a1, b1⟩ := HCd.out
   obtain ⟨d0, d1, d2, d3, d4, d5, d6, d7⟩ := HOkd.out
   have HOB := HOBd
   have HROW := HROWd
   have HBL := HBLd
   have HOk := HOkd
   have hobl := hobd
   have HGr := HGd
   clear HOBd HROWd HBLd HOkd hobd HCd HGd
   have hSw : wr.cell? ⟨w.heap.size, 1, none⟩ = some (.slice (some ⟨b, off, none⟩) no co) ∧ wr.cell? ⟨b, off + k * 8, none⟩ = some (.int .i64 x.dev) ∧ wr.cell? ⟨b, off + k * 8 + 1, none⟩ = some (.int .i64 x.seq) ∧ wr.cell? ⟨b, off + k * 8 + 2, none⟩ = some (.int .i64 x.stamp) ∧ wr.cell? ⟨b, off + k * 8 + 3, none⟩ = some (.int .i64 x.kind) ∧ wr.cell? ⟨b, off + k * 8 + 4, none⟩ = some (.string x.item) ∧ wr.cell? ⟨b, off + k * 8 + 5, none⟩ = some (.int .i64 x.qty) ∧ wr.cell? ⟨b, off + k * 8 + 6, none⟩ = some (.int .i64 x.level) ∧ wr.cell? ⟨b, off + k * 8 + 7, none⟩ = some (.int .i64 x.undos) := ⟨a1, d0, d1, d2, d3, d4, d5, d6, d7⟩
   clear a1 b1 d0 d1 d2 d3 d4 d5 d6 d7 HOk HGr
   go_upto_region 7 with fail
   obtain ⟨z0, hz0e⟩ : ∃ z0, wr.drew = z0 := ⟨_, rfl⟩
   have hS : z0.cell? ⟨w.heap.size, 1, none⟩ = some (.slice (some ⟨b, off, none⟩) no co) ∧ z0.cell? ⟨b, off + k * 8, none⟩ = some (.int .i64 x.dev) ∧ z0.cell? ⟨b, off + k * 8 + 1, none⟩ = some (.int .i64 x.seq) ∧ z0.cell? ⟨b, off + k * 8 + 2, none⟩ = some (.int .i64 x.stamp) ∧ z0.cell? ⟨b, off + k * 8 + 3, none⟩ = some (.int .i64 x.kind) ∧ z0.cell? ⟨b, off + k * 8 + 4, none⟩ = some (.string x.item) ∧ z0.cell? ⟨b, off + k * 8 + 5, none⟩ = some (.int .i64 x.qty) ∧ z0.cell? ⟨b, off + k * 8 + 6, none⟩ = some (.int .i64 x.level) ∧ z0.cell? ⟨b, off + k * 8 + 7, none⟩ = some (.int .i64 x.undos) := ⟨by rw [← hz0e]; exact hSw.1, by rw [← hz0e]; exact hSw.2.1, by rw [← hz0e]; exact hSw.2.2.1, by rw [← hz0e]; exact hSw.2.2.2.1, by rw [← hz0e]; exact hSw.2.2.2.2.1, by rw [← hz0e]; exact hSw.2.2.2.2.2.1, by rw [← hz0e]; exact hSw.2.2.2.2.2.2.1, by rw [← hz0e]; exact hSw.2.2.2.2.2.2.2.1, by rw [← hz0e]; exact hSw.2.2.2.2.2.2.2.2⟩
   have ob0 : Hid (z0.heap[ob]? = some (.cells #[.slice (some ⟨vb, 0, none⟩) 4 zc, .slice oa L.length oc] 29 (0, 0))) := by rw [← hz0e]; exact HOB.out
   have row0 : z0.ownsRow (ob + 1) 77 8 (.slice oa L.length oc) L.length (opCells L) := by rw [← hz0e]; exact HROW.out
   have obl0 : ob < z0.heap.size := by rw [← hz0e]; exact hobl
   have hb0z : Hid (Below ob wr z0) := by rw [← hz0e]; exact ⟨rfl, rfl, rfl, Nat.le_refl _, fun _ _ => rfl⟩
   have o1 := (pair_cells ob0.out).2
   have row1 := row0.alloc (.cells #[.int .i64 x.dev, .int .i64 x.seq, .int .i64 x.stamp, .int .i64 x.kind, .string x.item, .int .i64 x.qty, .int .i64 x.level, .int .i64 x.undos] 77)
   have hbz1 : Below ob z0 (z0.alloc (.cells #[.int .i64 x.dev, .int .i64 x.seq, .int .i64 x.stamp, .int .i64 x.kind, .string x.item, .int .i64 x.qty, .int .i64 x.level, .int .i64 x.undos] 77)) := (Below.refl ob z0).alloc (by omega) _
   obtain ⟨v', z2, hrun, hown2, hgr, _⟩ := run_append_own (P := Try.prog) (z0.alloc (.cells #[.int .i64 x.dev, .int .i64 x.seq, .int .i64 x.stamp, .int .i64 x.kind, .string x.item, .int .i64 x.qty, .int .i64 x.level, .int .i64 x.undos] 77)) (ob + 1) 27 27 77 i0 (.agg #[.int .i64 0, .int .i64 0, .int .i64 0, .int .i64 0, .string ⟨#[]⟩, .int .i64 0, .int .i64 0, .int .i64 0]) 8 72 Try.underlying27 hi hz0 hz1 hz2 rfl (by decide) _ _ _ row1 ⟨z0.heap.size, 0, none⟩ 1 1 (opRow x) rfl (opRow_new z0 x) (fun u hu => opCells_one [x] u (by show u ∈ opRow x ++ []; rw [List.append_nil]; exact hu)) (by unfold maxLen; omega) (by omega) (by show _ ≤ (z0.heap.push _).size; simp; omega)
   have hbz2 : Below ob z0 z2 := hbz1.grown hgr (Nat.le_trans (by omega) hbz1.size) (fun q hq => by have := (row1.lt q hq).1; omega)
   obtain ⟨va2, vc2, rfl⟩ : ∃ va2 vc2, v' = .slice va2 (L.length + 1) vc2 := by
    rcases hown2.2 with ⟨_, e2⟩ | ⟨_, c2, _, e2, _⟩
    ·omega
    ·exact ⟨_, c2, e2⟩
   have ob1 : Hid ((z0.alloc (.cells #[.int .i64 x.dev, .int .i64 x.seq, .int .i64 x.stamp, .int .i64 x.kind, .string x.item, .int .i64 x.qty, .int .i64 x.level, .int .i64 x.undos] 77)).heap[ob]? = some (.cells #[.slice (some ⟨vb, 0, none⟩) 4 zc, .slice oa L.length oc] 29 (0, 0))) := (Below.heap_alloc _ _ _ obl0).trans ob0.out
   have ob2 : Hid (z2.heap[ob]? = some (.cells #[.slice (some ⟨vb, 0, none⟩) 4 zc, .slice oa L.length oc] 29 (0, 0))) := (hgr.block ob (by show _ < (z0.heap.push _).size; simp; omega) (fun h => by have := (row1.lt ob h.symm).1; omega)).trans ob1.out
   have o11 := (pair_cells ob1.out).2
   have o12 := (pair_cells ob2.out).2
   have fz2 := (pair_frozen ob2.out).2
   have HBOX3 : Hid ((z2.setCell ⟨ob, 1, none⟩ (.slice va2 (L.length + 1) vc2)).heap[ob]? = some (.cells #[.slice (some ⟨vb, 0, none⟩) 4 zc, .slice va2 (L.length + 1) vc2] 29 (0, 0))) := heap_setCell_same _ _ _ _ _ _ ob2.out
   have HROW3 : Hid ((z2.setCell ⟨ob, 1, none⟩ (.slice va2 (L.length + 1) vc2)).ownsRow (ob + 1) 77 8 (.slice va2 (L.length + 1) vc2) (L.length + 1) (opCells L ++ opRow x)) := row_put hown2 (fun q hq => by have := (hown2.lt q hq).1; omega)
   have hbz3 : Below ob z0 (z2.setCell ⟨ob, 1, none⟩ (.slice va2 (L.length + 1) vc2)) := hbz2.setCell (Nat.le_refl _) _
   have HBEL3 : Hid (Below ob wr (z2.setCell ⟨ob, 1, none⟩ (.slice va2 (L.length + 1) vc2))) := hb0z.out.trans hbz3
   have hSd : z0.cell? ⟨w.heap.size, 1, none⟩ = some (.slice (some ⟨b, off, none⟩) no co) ∧ z0.cell? ⟨b, off + k * 8, none⟩ = some (.int .i64 x.dev) ∧ z0.cell? ⟨b, off + k * 8 + 1, none⟩ = some (.int .i64 x.seq) ∧ z0.cell? ⟨b, off + k * 8 + 2, none⟩ = some (.int .i64 x.stamp) ∧ z0.cell? ⟨b, off + k * 8 + 3, none⟩ = some (.int .i64 x.kind) ∧ z0.cell? ⟨b, off + k * 8 + 4, none⟩ = some (.string x.item) ∧ z0.cell? ⟨b, off + k * 8 + 5, none⟩ = some (.int .i64 x.qty) ∧ z0.cell? ⟨b, off + k * 8 + 6, none⟩ = some (.int .i64 x.level) ∧ z0.cell? ⟨b, off + k * 8 + 7, none⟩ = some (.int .i64 x.undos) := hS
   have hS1 : (z0.alloc (.cells #[.int .i64 x.dev, .int .i64 x.seq, .int .i64 x.stamp, .int .i64 x.kind, .string x.item, .int .i64 x.qty, .int .i64 x.level, .int .i64 x.undos] 77)).cell? ⟨w.heap.size, 1, none⟩ = some (.slice (some ⟨b, off, none⟩) no co) ∧ (z0.alloc (.cells #[.int .i64 x.dev, .int .i64 x.seq, .int .i64 x.stamp, .int .i64 x.kind, .string x.item, .int .i64 x.qty, .int .i64 x.level, .int .i64 x.undos] 77)).cell? ⟨b, off + k * 8, none⟩ = some (.int .i64 x.dev) ∧ (z0.alloc (.cells #[.int .i64 x.dev, .int .i64 x.seq, .int .i64 x.stamp, .int .i64 x.kind, .string x.item, .int .i64 x.qty, .int .i64 x.level, .int .i64 x.undos] 77)).cell? ⟨b, off + k * 8 + 1, none⟩ = some (.int .i64 x.seq) ∧ (z0.alloc (.cells #[.int .i64 x.dev, .int .i64 x.seq, .int .i64 x.stamp, .int .i64 x.kind, .string x.item, .int .i64 x.qty, .int .i64 x.level, .int .i64 x.undos] 77)).cell? ⟨b, off + k * 8 + 2, none⟩ = some (.int .i64 x.stamp) ∧ (z0.alloc (.cells #[.int .i64 x.dev, .int .i64 x.seq, .int .i64 x.stamp, .int .i64 x.kind, .string x.item, .int .i64 x.qty, .int .i64 x.level, .int .i64 x.undos] 77)).cell? ⟨b, off + k * 8 + 3, none⟩ = some (.int .i64 x.kind) ∧ (z0.alloc (.cells #[.int .i64 x.dev, .int .i64 x.seq, .int .i64 x.stamp, .int .i64 x.kind, .string x.item, .int .i64 x.qty, .int .i64 x.level, .int .i64 x.undos] 77)).cell? ⟨b, off + k * 8 + 4, none⟩ = some (.string x.item) ∧ (z0.alloc (.cells #[.int .i64 x.dev, .int .i64 x.seq, .int .i64 x.stamp, .int .i64 x.kind, .string x.item, .int .i64 x.qty, .int .i64 x.level, .int .i64 x.undos] 77)).cell? ⟨b, off + k * 8 + 5, none⟩ = some (.int .i64 x.qty) ∧ (z0.alloc (.cells #[.int .i64 x.dev, .int .i64 x.seq, .int .i64 x.stamp, .int .i64 x.kind, .string x.item, .int .i64 x.qty, .int .i64 x.level, .int .i64 x.undos] 77)).cell? ⟨b, off + k * 8 + 6, none⟩ = some (.int .i64 x.level) ∧ (z0.alloc (.cells #[.int .i64 x.dev, .int .i64 x.seq, .int .i64 x.stamp, .int .i64 x.kind, .string x.item, .int .i64 x.qty, .int .i64 x.level, .int .i64 x.undos] 77)).cell? ⟨b, off + k * 8 + 7, none⟩ = some (.int .i64 x.undos) := ⟨(hbz1.cell (by show w.heap.size < ob; omega)).trans hS.1, (hbz1.cell (by show b < ob; omega)).trans hS.2.1, (hbz1.cell (by show b < ob; omega)).trans hS.2.2.1, (hbz1.cell (by show b < ob; omega)).trans hS.2.2.2.1, (hbz1.cell (by show b < ob; omega)).trans hS.2.2.2.2.1, (hbz1.cell (by show b < ob; omega)).trans hS.2.2.2.2.2.1, (hbz1.cell (by show b < ob; omega)).trans hS.2.2.2.2.2.2.1, (hbz1.cell (by show b < ob; omega)).trans hS.2.2.2.2.2.2.2.1, (hbz1.cell (by show b < ob; omega)).trans hS.2.2.2.2.2.2.2.2⟩
   have hS2 : z2.cell? ⟨w.heap.size, 1, none⟩ = some (.slice (some ⟨b, off, none⟩) no co) ∧ z2.cell? ⟨b, off + k * 8, none⟩ = some (.int .i64 x.dev) ∧ z2.cell? ⟨b, off + k * 8 + 1, none⟩ = some (.int .i64 x.seq) ∧ z2.cell? ⟨b, off + k * 8 + 2, none⟩ = some (.int .i64 x.stamp) ∧ z2.cell? ⟨b, off + k * 8 + 3, none⟩ = some (.int .i64 x.kind) ∧ z2.cell? ⟨b, off + k * 8 + 4, none⟩ = some (.string x.item) ∧ z2.cell? ⟨b, off + k * 8 + 5, none⟩ = some (.int .i64 x.qty) ∧ z2.cell? ⟨b, off + k * 8 + 6, none⟩ = some (.int .i64 x.level) ∧ z2.cell? ⟨b, off + k * 8 + 7, none⟩ = some (.int .i64 x.undos) := ⟨(hbz2.cell (by show w.heap.size < ob; omega)).trans hS.1, (hbz2.cell (by show b < ob; omega)).trans hS.2.1, (hbz2.cell (by show b < ob; omega)).trans hS.2.2.1, (hbz2.cell (by show b < ob; omega)).trans hS.2.2.2.1, (hbz2.cell (by show b < ob; omega)).trans hS.2.2.2.2.1, (hbz2.cell (by show b < ob; omega)).trans hS.2.2.2.2.2.1, (hbz2.cell (by show b < ob; omega)).trans hS.2.2.2.2.2.2.1, (hbz2.cell (by show b < ob; omega)).trans hS.2.2.2.2.2.2.2.1, (hbz2.cell (by show b < ob; omega)).trans hS.2.2.2.2.2.2.2.2⟩
   have hS3 : (z2.setCell ⟨ob, 1, none⟩ (.slice va2 (L.length + 1) vc2)).cell? ⟨w.heap.size, 1, none⟩ = some (.slice (some ⟨b, off, none⟩) no co) ∧ (z2.setCell ⟨ob, 1, none⟩ (.slice va2 (L.length + 1) vc2)).cell? ⟨b, off + k * 8, none⟩ = some (.int .i64 x.dev) ∧ (z2.setCell ⟨ob, 1, none⟩ (.slice va2 (L.length + 1) vc2)).cell? ⟨b, off + k * 8 + 1, none⟩ = some (.int .i64 x.seq) ∧ (z2.setCell ⟨ob, 1, none⟩ (.slice va2 (L.length + 1) vc2)).cell? ⟨b, off + k * 8 + 2, none⟩ = some (.int .i64 x.stamp) ∧ (z2.setCell ⟨ob, 1, none⟩ (.slice va2 (L.length + 1) vc2)).cell? ⟨b, off + k * 8 + 3, none⟩ = some (.int .i64 x.kind) ∧ (z2.setCell ⟨ob, 1, none⟩ (.slice va2 (L.length + 1) vc2)).cell? ⟨b, off + k * 8 + 4, none⟩ = some (.string x.item) ∧ (z2.setCell ⟨ob, 1, none⟩ (.slice va2 (L.length + 1) vc2)).cell? ⟨b, off + k * 8 + 5, none⟩ = some (.int .i64 x.qty) ∧ (z2.setCell ⟨ob, 1, none⟩ (.slice va2 (L.length + 1) vc2)).cell? ⟨b, off + k * 8 + 6, none⟩ = some (.int .i64 x.level) ∧ (z2.setCell ⟨ob, 1, none⟩ (.slice va2 (L.length + 1) vc2)).cell? ⟨b, off + k * 8 + 7, none⟩ = some (.int .i64 x.undos) := ⟨(hbz3.cell (by show w.heap.size < ob; omega)).trans hS.1, (hbz3.cell (by show b < ob; omega)).trans hS.2.1, (hbz3.cell (by show b < ob; omega)).trans hS.2.2.1, (hbz3.cell (by show b < ob; omega)).trans hS.2.2.2.1, (hbz3.cell (by show b < ob; omega)).trans hS.2.2.2.2.1, (hbz3.cell (by show b < ob; omega)).trans hS.2.2.2.2.2.1, (hbz3.cell (by show b < ob; omega)).trans hS.2.2.2.2.2.2.1, (hbz3.cell (by show b < ob; omega)).trans hS.2.2.2.2.2.2.2.1, (hbz3.cell (by show b < ob; omega)).trans hS.2.2.2.2.2.2.2.2⟩
   clear hSw HOB HROW row0 hb0z
   go_wp2_with fail
   refine wp_region_held_drew (S := fun w' => w'.cell? ⟨w.heap.size, 1, none⟩ = some (.slice (some ⟨b, off, none⟩) no co) ∧ w'.cell? ⟨b, off + k * 8, none⟩ = some (.int .i64 x.dev) ∧ w'.cell? ⟨b, off + k * 8 + 1, none⟩ = some (.int .i64 x.seq) ∧ w'.cell? ⟨b, off + k * 8 + 2, none⟩ = some (.int .i64 x.stamp) ∧ w'.cell? ⟨b, off + k * 8 + 3, none⟩ = some (.int .i64 x.kind) ∧ w'.cell? ⟨b, off + k * 8 + 4, none⟩ = some (.string x.item) ∧ w'.cell? ⟨b, off + k * 8 + 5, none⟩ = some (.int .i64 x.qty) ∧ w'.cell? ⟨b, off + k * 8 + 6, none⟩ = some (.int .i64 x.level) ∧ w'.cell? ⟨b, off + k * 8 + 7, none⟩ = some (.int .i64 x.undos)) (by kernel_rfl) (by rw [hz0e]; exact hS) (fun hHeld => ?_)
   rw [hz0e]
   clear hHeld
   refine tk 0 ⟨some 52, .fieldAddr 29 (.tmp 5) 1, 0, "l07_deltas.go:27", #[], none⟩ ?_
   (try simp only [Act.put, u1, u2, u3])
   refine tk 2 ⟨some 54, .fieldAddr 29 (.tmp 2) 1, 0, "l07_deltas.go:27", #[], none⟩ ?_
   (try simp only [Act.put, u1, u2, u3])
   refine tk 3 ⟨some 55, .load 27 (.tmp 54), 27, "l07_deltas.go:27", #[⟨2, .data⟩], none⟩ ?_
   (try simp only [Act.put, u1, u2, u3])
   refine tk 4 ⟨some 56, .move (.tmp 6), 3, "l07_deltas.go:27", #[], none⟩ ?_
   (try simp only [Act.put, u1, u2, u3])
   refine tk 5 ⟨some 57, .indexAddr 27 (.tmp 55) (.tmp 56), 0, "l07_deltas.go:27", #[⟨3, .data⟩, ⟨4, .data⟩], none⟩ ?_
   (try simp only [Act.put, u1, u2, u3])
   refine tk 6 ⟨some 58, .load 77 (.tmp 57), 77, "l07_deltas.go:27", #[⟨5, .data⟩], none⟩ ?_
   (try simp only [Act.put, u1, u2, u3])
   refine wpAnyH_ready (rs := [1, 7]) (by kernel_rfl) (by simp) ?_
   refine AllReadyH.cons rfl (fun K hK => ?_) (AllReadyH.cons rfl (fun K hK => ?_) AllReadyH.nil)
   all_goals go_simp
   ·refine hK.out _ _ hSd (fun hHeld7 => ?_)
    clear hK K
    (try simp only [Act.put, u1, u2, u3])
    refine rk 7 rfl (fun K hK => ?_)
    go_simp
    refine hK.out _ _ hS1 (fun hHeld6 => ?_)
    clear hK K
    (try simp only [Act.put, u1, u2, u3])
    refine rk 8 rfl (fun K hK => ?_)
    rw [if_pos (by rfl)]
    refine opwp_append _ _ _ rfl _ _ rfl rfl hrun ?_
    refine hK.out _ _ hS2 (fun hHeld8 => ?_)
    clear hK K
    (try simp only [Act.put, u1, u2, u3])
    refine tk 9 ⟨some 61, .fieldAddr 29 (.tmp 5) 1, 0, "l07_deltas.go:27", #[⟨0, .phase⟩, ⟨1, .phase⟩, ⟨2, .phase⟩, ⟨3, .phase⟩, ⟨4, .phase⟩, ⟨5, .phase⟩, ⟨6, .phase⟩, ⟨7, .phase⟩, ⟨8, .phase⟩], none⟩ ?_
    (try simp only [Act.put, u1, u2, u3])
    refine rk 10 rfl (fun K hK => ?_)
    go_simp
    refine hK.out _ _ hS3 (fun hHeld9 => ?_)
    clear hK K
    (try simp only [Act.put, u1, u2, u3])
    refine wpAnyH_done (by kernel_rfl) ?_ _
    have HOn : Hid (OutD ob vb zc ((l.take (k + 1)).filter (delB m)) w2 (z2.setCell ⟨ob, 1, none⟩ (.slice va2 (L.length + 1) vc2))) := by
     show OutD _ _ _ _ _ _
     unfold OutD
     rw [HE.out, opCells_snoc, List.length_append]
     exact ⟨va2, vc2, HBOX3.out, HROW3.out, HBL.out.trans HBEL3.out⟩
    clear HBOX3 HROW3 HBEL3 hSd hS1 hS2 hS3 hS ob0 ob1 ob2 o1 o11 o12 fz2 hrun hown2 hgr row1 hbz1 hbz2 hbz3 hHeld6 hHeld7 hHeld8 hHeld9
    go_wp2
    go_roundw
    case rel => exact ⟨k + 1, by omega, by go_num, HOn⟩
    case measure => simp [intOf]; omega
   ·refine hK.out _ _ hS1 (fun hHeld7 => ?_)
    clear hK K
    (try simp only [Act.put, u1, u2, u3])
    refine rk 1 rfl (fun K hK => ?_)
    go_simp
    refine hK.out _ _ hS1 (fun hHeld6 => ?_)
    clear hK K
    (try simp only [Act.put, u1, u2, u3])
    refine rk 8 rfl (fun K hK => ?_)
    rw [if_pos (by rfl)]
    refine opwp_append _ _ _ rfl _ _ rfl rfl hrun ?_
    refine hK.out _ _ hS2 (fun hHeld8 => ?_)
    clear hK K
    (try simp only [Act.put, u1, u2, u3])
    refine tk 9 ⟨some 61, .fieldAddr 29 (.tmp 5) 1, 0, "l07_deltas.go:27", #[⟨0, .phase⟩, ⟨1, .phase⟩, ⟨2, .phase⟩, ⟨3, .phase⟩, ⟨4, .phase⟩, ⟨5, .phase⟩, ⟨6, .phase⟩, ⟨7, .phase⟩, ⟨8, .phase⟩], none⟩ ?_
    (try simp only [Act.put, u1, u2, u3])
    refine rk 10 rfl (fun K hK => ?_)
    go_simp
    refine hK.out _ _ hS3 (fun hHeld9 => ?_)
    clear hK K
    (try simp only [Act.put, u1, u2, u3])
    refine wpAnyH_done (by kernel_rfl) ?_ _
    have HOn : Hid (OutD ob vb zc ((l.take (k + 1)).filter (delB m)) w2 (z2.setCell ⟨ob, 1, none⟩ (.slice va2 (L.length + 1) vc2))) := by
     show OutD _ _ _ _ _ _
     unfold OutD
     rw [HE.out, opCells_snoc, List.length_append]
     exact ⟨va2, vc2, HBOX3.out, HROW3.out, HBL.out.trans HBEL3.out⟩
    clear HBOX3 HROW3 HBEL3 hSd hS1 hS2 hS3 hS ob0 ob1 ob2 o1 o11 o12 fz2 hrun hown2 hgr row1 hbz1 hbz2 hbz3 hHeld6 hHeld7 hHeld8 hHeld9
    go_wp2
    go_roundw
    case rel => exact ⟨k + 1, by omega, by go_num, HOn⟩
    case measure => simp [intOf]; omega
  have HTg := Lib.hid (HTy.out i (by rw [HLm.out]; exact him) he)
  clear he HK
  obtain ⟨b2, off2, rfl, hb2, ho2⟩ := HGr.out.2 i him
  have HOy : Hid (OpAt y0 b2 (off2 + i * 8) (atOp m i)) := ho2
  clear ho2
  generalize atOp m i = y at HTg HOy
  obtain ⟨e0, e1, e2, e3, e4, e5, e6, e7⟩ := HOy.out
  obtain ⟨tb, htb⟩ : ∃ b, decide (y.undos < x.undos) = b := ⟨_, rfl⟩
  rw [htb] at HTg
  have HTb := Lib.hid htb
  clear htb
  have hii : (i : Int) < (mo : Int) := by omega
  have hi0 : decide ((i : Int) < 0) = false := decide_eq_false (by omega)
  have hi00 : ¬ ((i : Int) < 0) := by omega
  have hS : y0.drew.cell? ⟨w.heap.size, 1, none⟩ = some (.slice (some ⟨b, off, none⟩) no co) ∧ y0.drew.cell? ⟨w.heap.size + 1, 1, none⟩ = some (.slice (some ⟨b2, off2, none⟩) mo eo) ∧ y0.drew.cell? ⟨b, off + k * 8 + 7, none⟩ = some (.int .i64 x.undos) ∧ y0.drew.cell? ⟨b2, off2 + i * 8 + 7, none⟩ = some (.int .i64 y.undos) := ⟨a1, b1, d7, e7⟩
  go_wp2_with fail
  refine wp_region_held_drew (S := fun w' => w'.cell? ⟨w.heap.size, 1, none⟩ = some (.slice (some ⟨b, off, none⟩) no co) ∧ w'.cell? ⟨w.heap.size + 1, 1, none⟩ = some (.slice (some ⟨b2, off2, none⟩) mo eo) ∧ w'.cell? ⟨b, off + k * 8 + 7, none⟩ = some (.int .i64 x.undos) ∧ w'.cell? ⟨b2, off2 + i * 8 + 7, none⟩ = some (.int .i64 y.undos)) (by kernel_rfl) hS (fun hHeld => ?_)
  refine tk 0 ⟨some 35, .move (.tmp 7), 3, "l07_deltas.go:26", #[], none⟩ ?_
  (try simp only [Act.put, u1, u2, u3])
  refine tk 1 ⟨some 36, .binOp .lss 3 (.tmp 35) (.const (Value.int IntKind.i64 0)) 3, 4, "l07_deltas.go:26", #[⟨0, .data⟩], none⟩ ?_
  (try simp only [Act.put, u1, u2, u3])
  refine tk 2 ⟨some 37, .move (.tmp 36), 4, "l07_deltas.go:26", #[⟨1, .data⟩], none⟩ ?_
  (try simp only [Act.put, u1, u2, u3])
  refine tk 3 ⟨some 38, .fieldAddr 29 (.tmp 3) 1, 0, "l07_deltas.go:26", #[⟨2, .guard⟩], some (2, false)⟩ ?_
  (try simp only [Act.put, u1, u2, u3])
  refine tk 4 ⟨some 39, .load 27 (.tmp 38), 27, "l07_deltas.go:26", #[⟨3, .data⟩, ⟨2, .guard⟩], some (2, false)⟩ ?_
  (try simp only [Act.put, u1, u2, u3])
  refine tk 5 ⟨some 40, .move (.tmp 7), 3, "l07_deltas.go:26", #[⟨2, .guard⟩], some (2, false)⟩ ?_
  (try simp only [Act.put, u1, u2, u3])
  refine tk 6 ⟨some 41, .indexAddr 27 (.tmp 39) (.tmp 40), 0, "l07_deltas.go:26", #[⟨4, .data⟩, ⟨5, .data⟩, ⟨2, .guard⟩], some (2, false)⟩ ?_
  (try simp only [Act.put, u1, u2, u3])
  refine tk 7 ⟨some 42, .fieldAddr 77 (.tmp 41) 7, 0, "l07_deltas.go:26", #[⟨6, .data⟩, ⟨2, .guard⟩], some (2, false)⟩ ?_
  (try simp only [Act.put, u1, u2, u3])
  refine tk 8 ⟨some 43, .load 2 (.tmp 42), 2, "l07_deltas.go:26", #[⟨7, .data⟩, ⟨2, .guard⟩], some (2, false)⟩ ?_
  (try simp only [Act.put, u1, u2, u3])
  refine tk 9 ⟨some 44, .fieldAddr 29 (.tmp 2) 1, 0, "l07_deltas.go:26", #[⟨2, .guard⟩], some (2, false)⟩ ?_
  (try simp only [Act.put, u1, u2, u3])
  refine tk 10 ⟨some 45, .load 27 (.tmp 44), 27, "l07_deltas.go:26", #[⟨9, .data⟩, ⟨2, .guard⟩], some (2, false)⟩ ?_
  (try simp only [Act.put, u1, u2, u3])
  refine tk 11 ⟨some 46, .move (.tmp 6), 3, "l07_deltas.go:26", #[⟨2, .guard⟩], some (2, false)⟩ ?_
  (try simp only [Act.put, u1, u2, u3])
  refine tk 12 ⟨some 47, .indexAddr 27 (.tmp 45) (.tmp 46), 0, "l07_deltas.go:26", #[⟨10, .data⟩, ⟨11, .data⟩, ⟨2, .guard⟩], some (2, false)⟩ ?_
  (try simp only [Act.put, u1, u2, u3])
  refine tk 13 ⟨some 48, .fieldAddr 77 (.tmp 47) 7, 0, "l07_deltas.go:26", #[⟨12, .data⟩, ⟨2, .guard⟩], some (2, false)⟩ ?_
  (try simp only [Act.put, u1, u2, u3])
  refine tk 14 ⟨some 49, .load 2 (.tmp 48), 2, "l07_deltas.go:26", #[⟨13, .data⟩, ⟨2, .guard⟩], some (2, false)⟩ ?_
  (try simp only [Act.put, u1, u2, u3])
  refine tk 15 ⟨some 50, .binOp .lss 2 (.tmp 43) (.tmp 49) 2, 4, "l07_deltas.go:26", #[⟨8, .data⟩, ⟨14, .data⟩, ⟨2, .guard⟩], some (2, false)⟩ ?_
  (try simp only [Act.put, u1, u2, u3])
  refine tk 16 ⟨some 51, .pick (.tmp 37) (.const (Value.bool true)) (.tmp 50), 4, "l07_deltas.go:26", #[⟨2, .data⟩, ⟨15, .data⟩], none⟩ ?_
  (try simp only [Act.put, u1, u2, u3])
  refine wpAnyH_done (by kernel_rfl) ?_ _
  clear e0 e1 e2 e3 e4 e5 e6 e7 HOy
  have HOBd : Hid (y0.drew.heap[ob]? = some (.cells #[.slice (some ⟨vb, 0, none⟩) 4 zc, .slice oa L.length oc] 29 (0, 0))) := HOB.out
  have HROWd : Hid (y0.drew.ownsRow (ob + 1) 77 8 (.slice oa L.length oc) L.length (opCells L)) := HROW.out.drew
  have HBLd : Hid (Below ob w2 y0.drew) := ⟨HBL.out.os, HBL.out.tape, HBL.out.output, HBL.out.size, HBL.out.block⟩
  have HOkd : Hid (OpAt y0.drew b (off + k * 8) x) := HOk.out
  have hobd : ob < y0.drew.heap.size := hobl
  have HCd : Hid (y0.drew.cell? ⟨w.heap.size, 1, none⟩ = some (.slice (some ⟨b, off, none⟩) no co) ∧ y0.drew.cell? ⟨w.heap.size + 1, 1, none⟩ = some (.slice (some ⟨b2, off2, none⟩) mo eo)) := ⟨a1, b1⟩
  have HGd : Hid (Ops y0.drew B (some ⟨b2, off2, none⟩) mo m) := HGr.out.kept fun _ _ => rfl
  clear hS hHeld d0 d1 d2 d3 d4 d5 d6 d7 a1 b1 HOB HROW HBL HOk hobl HGr
  generalize y0.drew = wr at HOBd HROWd HBLd HOkd hobd HCd HGd ⊢
  obtain ⟨a1, b1⟩ := HCd.out
  obtain ⟨d0, d1, d2, d3, d4, d5, d6, d7⟩ := HOkd.out
  have HOB := HOBd
  have HROW := HROWd
  have HBL := HBLd
  have HOk := HOkd
  have hobl := hobd
  have HGr := HGd
  clear HOBd HROWd HBLd HOkd hobd HCd HGd
  cases tb
  ·have HE : Hid ((l.take (k + 1)).filter (delB m) = L) := by show _ = _; rw [HSt.out, HTg.out]; rfl
   have hdt := HTb.out
   have hnl : ¬ y.undos < x.undos := of_decide_eq_false hdt
   have HOn : Hid (OutD ob vb zc ((l.take (k + 1)).filter (delB m)) w2 wr) := by
    show OutD _ _ _ _ _ _
    rw [HE.out]
    exact ⟨oa, oc, HOB.out, HROW.out, HBL.out⟩
   clear a1 b1 d0 d1 d2 d3 d4 d5 d6 d7
   go_wp2
   go_roundw
   case rel => exact ⟨k + 1, by omega, by go_num, HOn⟩
   case measure => simp [intOf]; omega
  have HE : Hid ((l.take (k + 1)).filter (delB m) = L ++ [x]) := by show _ = _; rw [HSt.out, HTg.out]; rfl
  have hdt := HTb.out
  have hyl : y.undos < x.undos := of_decide_eq_true hdt
  have hSw : wr.cell? ⟨w.heap.size, 1, none⟩ = some (.slice (some ⟨b, off, none⟩) no co) ∧ wr.cell? ⟨b, off + k * 8, none⟩ = some (.int .i64 x.dev) ∧ wr.cell? ⟨b, off + k * 8 + 1, none⟩ = some (.int .i64 x.seq) ∧ wr.cell? ⟨b, off + k * 8 + 2, none⟩ = some (.int .i64 x.stamp) ∧ wr.cell? ⟨b, off + k * 8 + 3, none⟩ = some (.int .i64 x.kind) ∧ wr.cell? ⟨b, off + k * 8 + 4, none⟩ = some (.string x.item) ∧ wr.cell? ⟨b, off + k * 8 + 5, none⟩ = some (.int .i64 x.qty) ∧ wr.cell? ⟨b, off + k * 8 + 6, none⟩ = some (.int .i64 x.level) ∧ wr.cell? ⟨b, off + k * 8 + 7, none⟩ = some (.int .i64 x.undos) := ⟨a1, d0, d1, d2, d3, d4, d5, d6, d7⟩
  clear a1 b1 d0 d1 d2 d3 d4 d5 d6 d7 HOk HGr
  go_upto_region 7 with fail
  obtain ⟨z0, hz0e⟩ : ∃ z0, wr.drew = z0 := ⟨_, rfl⟩
  have hS : z0.cell? ⟨w.heap.size, 1, none⟩ = some (.slice (some ⟨b, off, none⟩) no co) ∧ z0.cell? ⟨b, off + k * 8, none⟩ = some (.int .i64 x.dev) ∧ z0.cell? ⟨b, off + k * 8 + 1, none⟩ = some (.int .i64 x.seq) ∧ z0.cell? ⟨b, off + k * 8 + 2, none⟩ = some (.int .i64 x.stamp) ∧ z0.cell? ⟨b, off + k * 8 + 3, none⟩ = some (.int .i64 x.kind) ∧ z0.cell? ⟨b, off + k * 8 + 4, none⟩ = some (.string x.item) ∧ z0.cell? ⟨b, off + k * 8 + 5, none⟩ = some (.int .i64 x.qty) ∧ z0.cell? ⟨b, off + k * 8 + 6, none⟩ = some (.int .i64 x.level) ∧ z0.cell? ⟨b, off + k * 8 + 7, none⟩ = some (.int .i64 x.undos) := ⟨by rw [← hz0e]; exact hSw.1, by rw [← hz0e]; exact hSw.2.1, by rw [← hz0e]; exact hSw.2.2.1, by rw [← hz0e]; exact hSw.2.2.2.1, by rw [← hz0e]; exact hSw.2.2.2.2.1, by rw [← hz0e]; exact hSw.2.2.2.2.2.1, by rw [← hz0e]; exact hSw.2.2.2.2.2.2.1, by rw [← hz0e]; exact hSw.2.2.2.2.2.2.2.1, by rw [← hz0e]; exact hSw.2.2.2.2.2.2.2.2⟩
  have ob0 : Hid (z0.heap[ob]? = some (.cells #[.slice (some ⟨vb, 0, none⟩) 4 zc, .slice oa L.length oc] 29 (0, 0))) := by rw [← hz0e]; exact HOB.out
  have row0 : z0.ownsRow (ob + 1) 77 8 (.slice oa L.length oc) L.length (opCells L) := by rw [← hz0e]; exact HROW.out
  have obl0 : ob < z0.heap.size := by rw [← hz0e]; exact hobl
  have hb0z : Hid (Below ob wr z0) := by rw [← hz0e]; exact ⟨rfl, rfl, rfl, Nat.le_refl _, fun _ _ => rfl⟩
  have o1 := (pair_cells ob0.out).2
  have row1 := row0.alloc (.cells #[.int .i64 x.dev, .int .i64 x.seq, .int .i64 x.stamp, .int .i64 x.kind, .string x.item, .int .i64 x.qty, .int .i64 x.level, .int .i64 x.undos] 77)
  have hbz1 : Below ob z0 (z0.alloc (.cells #[.int .i64 x.dev, .int .i64 x.seq, .int .i64 x.stamp, .int .i64 x.kind, .string x.item, .int .i64 x.qty, .int .i64 x.level, .int .i64 x.undos] 77)) := (Below.refl ob z0).alloc (by omega) _
  obtain ⟨v', z2, hrun, hown2, hgr, _⟩ := run_append_own (P := Try.prog) (z0.alloc (.cells #[.int .i64 x.dev, .int .i64 x.seq, .int .i64 x.stamp, .int .i64 x.kind, .string x.item, .int .i64 x.qty, .int .i64 x.level, .int .i64 x.undos] 77)) (ob + 1) 27 27 77 i0 (.agg #[.int .i64 0, .int .i64 0, .int .i64 0, .int .i64 0, .string ⟨#[]⟩, .int .i64 0, .int .i64 0, .int .i64 0]) 8 72 Try.underlying27 hi hz0 hz1 hz2 rfl (by decide) _ _ _ row1 ⟨z0.heap.size, 0, none⟩ 1 1 (opRow x) rfl (opRow_new z0 x) (fun u hu => opCells_one [x] u (by show u ∈ opRow x ++ []; rw [List.append_nil]; exact hu)) (by unfold maxLen; omega) (by omega) (by show _ ≤ (z0.heap.push _).size; simp; omega)
  have hbz2 : Below ob z0 z2 := hbz1.grown hgr (Nat.le_trans (by omega) hbz1.size) (fun q hq => by have := (row1.lt q hq).1; omega)
  obtain ⟨va2, vc2, rfl⟩ : ∃ va2 vc2, v' = .slice va2 (L.length + 1) vc2 := by
   rcases hown2.2 with ⟨_, e2⟩ | ⟨_, c2, _, e2, _⟩
   ·omega
   ·exact ⟨_, c2, e2⟩
  have ob1 : Hid ((z0.alloc (.cells #[.int .i64 x.dev, .int .i64 x.seq, .int .i64 x.stamp, .int .i64 x.kind, .string x.item, .int .i64 x.qty, .int .i64 x.level, .int .i64 x.undos] 77)).heap[ob]? = some (.cells #[.slice (some ⟨vb, 0, none⟩) 4 zc, .slice oa L.length oc] 29 (0, 0))) := (Below.heap_alloc _ _ _ obl0).trans ob0.out
  have ob2 : Hid (z2.heap[ob]? = some (.cells #[.slice (some ⟨vb, 0, none⟩) 4 zc, .slice oa L.length oc] 29 (0, 0))) := (hgr.block ob (by show _ < (z0.heap.push _).size; simp; omega) (fun h => by have := (row1.lt ob h.symm).1; omega)).trans ob1.out
  have o11 := (pair_cells ob1.out).2
  have o12 := (pair_cells ob2.out).2
  have fz2 := (pair_frozen ob2.out).2
  have HBOX3 : Hid ((z2.setCell ⟨ob, 1, none⟩ (.slice va2 (L.length + 1) vc2)).heap[ob]? = some (.cells #[.slice (some ⟨vb, 0, none⟩) 4 zc, .slice va2 (L.length + 1) vc2] 29 (0, 0))) := heap_setCell_same _ _ _ _ _ _ ob2.out
  have HROW3 : Hid ((z2.setCell ⟨ob, 1, none⟩ (.slice va2 (L.length + 1) vc2)).ownsRow (ob + 1) 77 8 (.slice va2 (L.length + 1) vc2) (L.length + 1) (opCells L ++ opRow x)) := row_put hown2 (fun q hq => by have := (hown2.lt q hq).1; omega)
  have hbz3 : Below ob z0 (z2.setCell ⟨ob, 1, none⟩ (.slice va2 (L.length + 1) vc2)) := hbz2.setCell (Nat.le_refl _) _
  have HBEL3 : Hid (Below ob wr (z2.setCell ⟨ob, 1, none⟩ (.slice va2 (L.length + 1) vc2))) := hb0z.out.trans hbz3
  have hSd : z0.cell? ⟨w.heap.size, 1, none⟩ = some (.slice (some ⟨b, off, none⟩) no co) ∧ z0.cell? ⟨b, off + k * 8, none⟩ = some (.int .i64 x.dev) ∧ z0.cell? ⟨b, off + k * 8 + 1, none⟩ = some (.int .i64 x.seq) ∧ z0.cell? ⟨b, off + k * 8 + 2, none⟩ = some (.int .i64 x.stamp) ∧ z0.cell? ⟨b, off + k * 8 + 3, none⟩ = some (.int .i64 x.kind) ∧ z0.cell? ⟨b, off + k * 8 + 4, none⟩ = some (.string x.item) ∧ z0.cell? ⟨b, off + k * 8 + 5, none⟩ = some (.int .i64 x.qty) ∧ z0.cell? ⟨b, off + k * 8 + 6, none⟩ = some (.int .i64 x.level) ∧ z0.cell? ⟨b, off + k * 8 + 7, none⟩ = some (.int .i64 x.undos) := hS
  have hS1 : (z0.alloc (.cells #[.int .i64 x.dev, .int .i64 x.seq, .int .i64 x.stamp, .int .i64 x.kind, .string x.item, .int .i64 x.qty, .int .i64 x.level, .int .i64 x.undos] 77)).cell? ⟨w.heap.size, 1, none⟩ = some (.slice (some ⟨b, off, none⟩) no co) ∧ (z0.alloc (.cells #[.int .i64 x.dev, .int .i64 x.seq, .int .i64 x.stamp, .int .i64 x.kind, .string x.item, .int .i64 x.qty, .int .i64 x.level, .int .i64 x.undos] 77)).cell? ⟨b, off + k * 8, none⟩ = some (.int .i64 x.dev) ∧ (z0.alloc (.cells #[.int .i64 x.dev, .int .i64 x.seq, .int .i64 x.stamp, .int .i64 x.kind, .string x.item, .int .i64 x.qty, .int .i64 x.level, .int .i64 x.undos] 77)).cell? ⟨b, off + k * 8 + 1, none⟩ = some (.int .i64 x.seq) ∧ (z0.alloc (.cells #[.int .i64 x.dev, .int .i64 x.seq, .int .i64 x.stamp, .int .i64 x.kind, .string x.item, .int .i64 x.qty, .int .i64 x.level, .int .i64 x.undos] 77)).cell? ⟨b, off + k * 8 + 2, none⟩ = some (.int .i64 x.stamp) ∧ (z0.alloc (.cells #[.int .i64 x.dev, .int .i64 x.seq, .int .i64 x.stamp, .int .i64 x.kind, .string x.item, .int .i64 x.qty, .int .i64 x.level, .int .i64 x.undos] 77)).cell? ⟨b, off + k * 8 + 3, none⟩ = some (.int .i64 x.kind) ∧ (z0.alloc (.cells #[.int .i64 x.dev, .int .i64 x.seq, .int .i64 x.stamp, .int .i64 x.kind, .string x.item, .int .i64 x.qty, .int .i64 x.level, .int .i64 x.undos] 77)).cell? ⟨b, off + k * 8 + 4, none⟩ = some (.string x.item) ∧ (z0.alloc (.cells #[.int .i64 x.dev, .int .i64 x.seq, .int .i64 x.stamp, .int .i64 x.kind, .string x.item, .int .i64 x.qty, .int .i64 x.level, .int .i64 x.undos] 77)).cell? ⟨b, off + k * 8 + 5, none⟩ = some (.int .i64 x.qty) ∧ (z0.alloc (.cells #[.int .i64 x.dev, .int .i64 x.seq, .int .i64 x.stamp, .int .i64 x.kind, .string x.item, .int .i64 x.qty, .int .i64 x.level, .int .i64 x.undos] 77)).cell? ⟨b, off + k * 8 + 6, none⟩ = some (.int .i64 x.level) ∧ (z0.alloc (.cells #[.int .i64 x.dev, .int .i64 x.seq, .int .i64 x.stamp, .int .i64 x.kind, .string x.item, .int .i64 x.qty, .int .i64 x.level, .int .i64 x.undos] 77)).cell? ⟨b, off + k * 8 + 7, none⟩ = some (.int .i64 x.undos) := ⟨(hbz1.cell (by show w.heap.size < ob; omega)).trans hS.1, (hbz1.cell (by show b < ob; omega)).trans hS.2.1, (hbz1.cell (by show b < ob; omega)).trans hS.2.2.1, (hbz1.cell (by show b < ob; omega)).trans hS.2.2.2.1, (hbz1.cell (by show b < ob; omega)).trans hS.2.2.2.2.1, (hbz1.cell (by show b < ob; omega)).trans hS.2.2.2.2.2.1, (hbz1.cell (by show b < ob; omega)).trans hS.2.2.2.2.2.2.1, (hbz1.cell (by show b < ob; omega)).trans hS.2.2.2.2.2.2.2.1, (hbz1.cell (by show b < ob; omega)).trans hS.2.2.2.2.2.2.2.2⟩
  have hS2 : z2.cell? ⟨w.heap.size, 1, none⟩ = some (.slice (some ⟨b, off, none⟩) no co) ∧ z2.cell? ⟨b, off + k * 8, none⟩ = some (.int .i64 x.dev) ∧ z2.cell? ⟨b, off + k * 8 + 1, none⟩ = some (.int .i64 x.seq) ∧ z2.cell? ⟨b, off + k * 8 + 2, none⟩ = some (.int .i64 x.stamp) ∧ z2.cell? ⟨b, off + k * 8 + 3, none⟩ = some (.int .i64 x.kind) ∧ z2.cell? ⟨b, off + k * 8 + 4, none⟩ = some (.string x.item) ∧ z2.cell? ⟨b, off + k * 8 + 5, none⟩ = some (.int .i64 x.qty) ∧ z2.cell? ⟨b, off + k * 8 + 6, none⟩ = some (.int .i64 x.level) ∧ z2.cell? ⟨b, off + k * 8 + 7, none⟩ = some (.int .i64 x.undos) := ⟨(hbz2.cell (by show w.heap.size < ob; omega)).trans hS.1, (hbz2.cell (by show b < ob; omega)).trans hS.2.1, (hbz2.cell (by show b < ob; omega)).trans hS.2.2.1, (hbz2.cell (by show b < ob; omega)).trans hS.2.2.2.1, (hbz2.cell (by show b < ob; omega)).trans hS.2.2.2.2.1, (hbz2.cell (by show b < ob; omega)).trans hS.2.2.2.2.2.1, (hbz2.cell (by show b < ob; omega)).trans hS.2.2.2.2.2.2.1, (hbz2.cell (by show b < ob; omega)).trans hS.2.2.2.2.2.2.2.1, (hbz2.cell (by show b < ob; omega)).trans hS.2.2.2.2.2.2.2.2⟩
  have hS3 : (z2.setCell ⟨ob, 1, none⟩ (.slice va2 (L.length + 1) vc2)).cell? ⟨w.heap.size, 1, none⟩ = some (.slice (some ⟨b, off, none⟩) no co) ∧ (z2.setCell ⟨ob, 1, none⟩ (.slice va2 (L.length + 1) vc2)).cell? ⟨b, off + k * 8, none⟩ = some (.int .i64 x.dev) ∧ (z2.setCell ⟨ob, 1, none⟩ (.slice va2 (L.length + 1) vc2)).cell? ⟨b, off + k * 8 + 1, none⟩ = some (.int .i64 x.seq) ∧ (z2.setCell ⟨ob, 1, none⟩ (.slice va2 (L.length + 1) vc2)).cell? ⟨b, off + k * 8 + 2, none⟩ = some (.int .i64 x.stamp) ∧ (z2.setCell ⟨ob, 1, none⟩ (.slice va2 (L.length + 1) vc2)).cell? ⟨b, off + k * 8 + 3, none⟩ = some (.int .i64 x.kind) ∧ (z2.setCell ⟨ob, 1, none⟩ (.slice va2 (L.length + 1) vc2)).cell? ⟨b, off + k * 8 + 4, none⟩ = some (.string x.item) ∧ (z2.setCell ⟨ob, 1, none⟩ (.slice va2 (L.length + 1) vc2)).cell? ⟨b, off + k * 8 + 5, none⟩ = some (.int .i64 x.qty) ∧ (z2.setCell ⟨ob, 1, none⟩ (.slice va2 (L.length + 1) vc2)).cell? ⟨b, off + k * 8 + 6, none⟩ = some (.int .i64 x.level) ∧ (z2.setCell ⟨ob, 1, none⟩ (.slice va2 (L.length + 1) vc2)).cell? ⟨b, off + k * 8 + 7, none⟩ = some (.int .i64 x.undos) := ⟨(hbz3.cell (by show w.heap.size < ob; omega)).trans hS.1, (hbz3.cell (by show b < ob; omega)).trans hS.2.1, (hbz3.cell (by show b < ob; omega)).trans hS.2.2.1, (hbz3.cell (by show b < ob; omega)).trans hS.2.2.2.1, (hbz3.cell (by show b < ob; omega)).trans hS.2.2.2.2.1, (hbz3.cell (by show b < ob; omega)).trans hS.2.2.2.2.2.1, (hbz3.cell (by show b < ob; omega)).trans hS.2.2.2.2.2.2.1, (hbz3.cell (by show b < ob; omega)).trans hS.2.2.2.2.2.2.2.1, (hbz3.cell (by show b < ob; omega)).trans hS.2.2.2.2.2.2.2.2⟩
  clear hSw HOB HROW row0 hb0z
  go_wp2_with fail
  refine wp_region_held_drew (S := fun w' => w'.cell? ⟨w.heap.size, 1, none⟩ = some (.slice (some ⟨b, off, none⟩) no co) ∧ w'.cell? ⟨b, off + k * 8, none⟩ = some (.int .i64 x.dev) ∧ w'.cell? ⟨b, off + k * 8 + 1, none⟩ = some (.int .i64 x.seq) ∧ w'.cell? ⟨b, off + k * 8 + 2, none⟩ = some (.int .i64 x.stamp) ∧ w'.cell? ⟨b, off + k * 8 + 3, none⟩ = some (.int .i64 x.kind) ∧ w'.cell? ⟨b, off + k * 8 + 4, none⟩ = some (.string x.item) ∧ w'.cell? ⟨b, off + k * 8 + 5, none⟩ = some (.int .i64 x.qty) ∧ w'.cell? ⟨b, off + k * 8 + 6, none⟩ = some (.int .i64 x.level) ∧ w'.cell? ⟨b, off + k * 8 + 7, none⟩ = some (.int .i64 x.undos)) (by kernel_rfl) (by rw [hz0e]; exact hS) (fun hHeld => ?_)
  rw [hz0e]
  clear hHeld
  refine tk 0 ⟨some 52, .fieldAddr 29 (.tmp 5) 1, 0, "l07_deltas.go:27", #[], none⟩ ?_
  (try simp only [Act.put, u1, u2, u3])
  refine tk 2 ⟨some 54, .fieldAddr 29 (.tmp 2) 1, 0, "l07_deltas.go:27", #[], none⟩ ?_
  (try simp only [Act.put, u1, u2, u3])
  refine tk 3 ⟨some 55, .load 27 (.tmp 54), 27, "l07_deltas.go:27", #[⟨2, .data⟩], none⟩ ?_
  (try simp only [Act.put, u1, u2, u3])
  refine tk 4 ⟨some 56, .move (.tmp 6), 3, "l07_deltas.go:27", #[], none⟩ ?_
  (try simp only [Act.put, u1, u2, u3])
  refine tk 5 ⟨some 57, .indexAddr 27 (.tmp 55) (.tmp 56), 0, "l07_deltas.go:27", #[⟨3, .data⟩, ⟨4, .data⟩], none⟩ ?_
  (try simp only [Act.put, u1, u2, u3])
  refine tk 6 ⟨some 58, .load 77 (.tmp 57), 77, "l07_deltas.go:27", #[⟨5, .data⟩], none⟩ ?_
  (try simp only [Act.put, u1, u2, u3])
  refine wpAnyH_ready (rs := [1, 7]) (by kernel_rfl) (by simp) ?_
  refine AllReadyH.cons rfl (fun K hK => ?_) (AllReadyH.cons rfl (fun K hK => ?_) AllReadyH.nil)
  all_goals go_simp
  ·refine hK.out _ _ hSd (fun hHeld7 => ?_)
   clear hK K
   (try simp only [Act.put, u1, u2, u3])
   refine rk 7 rfl (fun K hK => ?_)
   go_simp
   refine hK.out _ _ hS1 (fun hHeld6 => ?_)
   clear hK K
   (try simp only [Act.put, u1, u2, u3])
   refine rk 8 rfl (fun K hK => ?_)
   rw [if_pos (by rfl)]
   refine opwp_append _ _ _ rfl _ _ rfl rfl hrun ?_
   refine hK.out _ _ hS2 (fun hHeld8 => ?_)
   clear hK K
   (try simp only [Act.put, u1, u2, u3])
   refine tk 9 ⟨some 61, .fieldAddr 29 (.tmp 5) 1, 0, "l07_deltas.go:27", #[⟨0, .phase⟩, ⟨1, .phase⟩, ⟨2, .phase⟩, ⟨3, .phase⟩, ⟨4, .phase⟩, ⟨5, .phase⟩, ⟨6, .phase⟩, ⟨7, .phase⟩, ⟨8, .phase⟩], none⟩ ?_
   (try simp only [Act.put, u1, u2, u3])
   refine rk 10 rfl (fun K hK => ?_)
   go_simp
   refine hK.out _ _ hS3 (fun hHeld9 => ?_)
   clear hK K
   (try simp only [Act.put, u1, u2, u3])
   refine wpAnyH_done (by kernel_rfl) ?_ _
   have HOn : Hid (OutD ob vb zc ((l.take (k + 1)).filter (delB m)) w2 (z2.setCell ⟨ob, 1, none⟩ (.slice va2 (L.length + 1) vc2))) := by
    show OutD _ _ _ _ _ _
    unfold OutD
    rw [HE.out, opCells_snoc, List.length_append]
    exact ⟨va2, vc2, HBOX3.out, HROW3.out, HBL.out.trans HBEL3.out⟩
   clear HBOX3 HROW3 HBEL3 hSd hS1 hS2 hS3 hS ob0 ob1 ob2 o1 o11 o12 fz2 hrun hown2 hgr row1 hbz1 hbz2 hbz3 hHeld6 hHeld7 hHeld8 hHeld9
   go_wp2
   go_roundw
   case rel => exact ⟨k + 1, by omega, by go_num, HOn⟩
   case measure => simp [intOf]; omega
  ·refine hK.out _ _ hS1 (fun hHeld7 => ?_)
   clear hK K
   (try simp only [Act.put, u1, u2, u3])
   refine rk 1 rfl (fun K hK => ?_)
   go_simp
   refine hK.out _ _ hS1 (fun hHeld6 => ?_)
   clear hK K
   (try simp only [Act.put, u1, u2, u3])
   refine rk 8 rfl (fun K hK => ?_)
   rw [if_pos (by rfl)]
   refine opwp_append _ _ _ rfl _ _ rfl rfl hrun ?_
   refine hK.out _ _ hS2 (fun hHeld8 => ?_)
   clear hK K
   (try simp only [Act.put, u1, u2, u3])
   refine tk 9 ⟨some 61, .fieldAddr 29 (.tmp 5) 1, 0, "l07_deltas.go:27", #[⟨0, .phase⟩, ⟨1, .phase⟩, ⟨2, .phase⟩, ⟨3, .phase⟩, ⟨4, .phase⟩, ⟨5, .phase⟩, ⟨6, .phase⟩, ⟨7, .phase⟩, ⟨8, .phase⟩], none⟩ ?_
   (try simp only [Act.put, u1, u2, u3])
   refine rk 10 rfl (fun K hK => ?_)
   go_simp
   refine hK.out _ _ hS3 (fun hHeld9 => ?_)
   clear hK K
   (try simp only [Act.put, u1, u2, u3])
   refine wpAnyH_done (by kernel_rfl) ?_ _
   have HOn : Hid (OutD ob vb zc ((l.take (k + 1)).filter (delB m)) w2 (z2.setCell ⟨ob, 1, none⟩ (.slice va2 (L.length + 1) vc2))) := by
    show OutD _ _ _ _ _ _
    unfold OutD
    rw [HE.out, opCells_snoc, List.length_append]
    exact ⟨va2, vc2, HBOX3.out, HROW3.out, HBL.out.trans HBEL3.out⟩
   clear HBOX3 HROW3 HBEL3 hSd hS1 hS2 hS3 hS ob0 ob1 ob2 o1 o11 o12 fz2 hrun hown2 hgr row1 hbz1 hbz2 hbz3 hHeld6 hHeld7 hHeld8 hHeld9
   go_wp2
   go_roundw
   case rel => exact ⟨k + 1, by omega, by go_num, HOn⟩
   case measure => simp [intOf]; omega
def DelPostK (ok : Bool) (zs : List Int) (L : List OpV) (w : World) (e : Ending) (w' : World) : Prop := ∃ va vc oa oc, e = .returned (.tuple #[.agg #[.slice va zs.length vc, .slice oa L.length oc], .bool ok]) ∧ Own w' w.heap.size w'.heap.size va zs.length zs ∧ OwnOps w' w.heap.size w'.heap.size oa L.length L ∧ Below w.heap.size w w' ∧ RowD w w' oa oc L
set_option linter.unusedSimpArgs false in
set_option maxHeartbeats 40000000 in
theorem specDeltaK (w : World) (B : Nat) (av ao bv bo : Option Addr) (nv cv no co mv dv mo eo : Nat) (xs : List Int) (l : List OpV) (ys : List Int) (m : List OpV) (hx : Ints w B av nv xs) (h : Ops w B ao no l) (hy : Ints w B bv mv ys) (g : Ops w B bo mo m) (hB : B ≤ w.heap.size) (hv : nv ≤ 1048576) (hn : no ≤ 1048576) (hm : ∀ i, i < no → (atOp l i).item.size ≤ 1048576) (hv2 : mv ≤ 1048576) (hn2 : mo ≤ 1048576) (hm2 : ∀ i, i < mo → (atOp m i).item.size ≤ 1048576) :
  Calls Try.prog 22 #[.agg #[.slice av nv cv, .slice ao no co], .agg #[.slice bv mv dv, .slice bo mo eo]] w (DelPostK (mergedB xs l ys m) (delVs xs (mergedB xs l ys m)) (delOs l m (mergedB xs l ys m)) w) := by
 have hT := TriF.mk0 w #[.slice av nv cv, .slice ao no co] #[.slice bv mv dv, .slice bo mo eo] #[.slice none 0 0, .slice none 0 0] 29 29 29
 have HV := Lib.hid (hx.below hT.bel hB)
 have HO := Lib.hid (h.below hT.bel hB)
 have HY := Lib.hid (hy.below hT.bel hB)
 have HG := Lib.hid (g.below hT.bel hB)
 have HT := Lib.hid hT
 have HM := Lib.hid hm
 have HM2 := Lib.hid hm2
 have hBw := hB
 clear hx h hy g hT hB hm hm2
 go_enter Try.func22, Try.ntmps22
 go_wp2_with fail
 generalize ((w.alloc (.cells #[.slice av nv cv, .slice ao no co] 29)).alloc (.cells #[.slice bv mv dv, .slice bo mo eo] 29)).alloc (.cells #[.slice none 0 0, .slice none 0 0] 29) = w0 at HV HO HY HG HT ⊢
 have hsz0 := HT.out.bel.size
 have hsz1 := lt_of_row HT.out.res
 refine (specMerged w0 B av ao bv bo nv cv no co mv dv mo eo xs l ys m HV.out HO.out HY.out HG.out (by omega) hv hn HM.out hv2 hn2 HM2.out).mono ?_
 rintro e w1 ⟨gva, gvc, goa, goc, rfl, -, -, hb1⟩
 have HV1 := Lib.hid (HV.out.below hb1 (by omega))
 have HO1 := Lib.hid (HO.out.below hb1 (by omega))
 have HG1 := Lib.hid (HG.out.below hb1 (by omega))
 have HT1 := Lib.hid (HT.out.next hb1)
 have hs1 := hb1.size
 clear hb1 HV HO HY HG HT
 generalize mergedVs xs ys (mergedB xs l ys m) = gzs
 generalize mergedOs xs ys l m (mergedB xs l ys m) = gls
 obtain ⟨R, hR⟩ : ∃ R, mergedB xs l ys m = R := ⟨_, rfl⟩
 have HR := Lib.hid hR
 clear hR
 rw [HR.out]
 go_upto_region 2 with fail
 have hb2 : Below w1.heap.size w1 (w1.alloc (.cells #[.slice gva gzs.length gvc, .slice goa gls.length goc] 29)) := bl
 generalize w1.alloc (.cells #[.slice gva gzs.length gvc, .slice goa gls.length goc] 29) = w2 at hb2 ⊢
 have HV2 := Lib.hid (HV1.out.below hb2 (by omega))
 have HO2 := Lib.hid (HO1.out.below hb2 (by omega))
 have HG2 := Lib.hid (HG1.out.below hb2 (by omega))
 have HT2 := Lib.hid (HT1.out.next hb2)
 have hs2 := hb2.size
 clear hb2 HV1 HO1 HG1 HT1
 cases R
 ·obtain ⟨r0, r1⟩ := pair_cells HT2.out.res
  obtain ⟨fz0, fz1⟩ := pair_frozen HT2.out.res
  have HXr := Lib.hid (HT2.out.set2S (.slice none 0 0) (.slice none 0 0)).1
  have HBr2 := Lib.hid (HT2.out.set2S (.slice none 0 0) (.slice none 0 0)).2
  go_wp2
  change bodyPost _ _ _ _ _ ((w2.setCell ⟨w.heap.size + 1 + 1, 0, none⟩ (.slice none 0 0)).setCell ⟨w.heap.size + 1 + 1, 1, none⟩ (.slice none 0 0))
  generalize (w2.setCell ⟨w.heap.size + 1 + 1, 0, none⟩ (.slice none 0 0)).setCell ⟨w.heap.size + 1 + 1, 1, none⟩ (.slice none 0 0) = wf at HXr HBr2 ⊢
  obtain ⟨q0, q1⟩ := pair_cells HXr.out
  rw [HR.out]
  exact bodyPost_ret (v := .tuple #[.agg #[.slice none 0 0, .slice none 0 0], .bool false]) (by simp [results, Try.results22, go_sem, q0, q1]) rfl ⟨none, 0, none, 0, rfl, own_nilS _ _ _ _, own_none _ _ _ _, HBr2.out, caps_nil, w.heap.size, Nat.le_refl _, World.ownsRow_nil _ _ _ _⟩
 have hmc := merged_carts HR.out
 obtain ⟨a0, a1⟩ := pair_cells HT2.out.fst
 obtain ⟨b0, b1⟩ := pair_cells HT2.out.snd
 go_wp2_with fail
 refine (l7Delta w2 B av ao bv bo nv cv no co mv dv mo eo xs l ys m HV2.out HO2.out HG2.out (by omega) hn hn2 hmc.1 hmc.2.1).mono ?_
 have HE : Hid (delOs l m true = l.filter (delB m)) := by show _ = _; rfl
 obtain ⟨L, hLq⟩ : ∃ L, l.filter (delB m) = L := ⟨_, rfl⟩
 rw [hLq] at HE ⊢
 clear hLq
 rintro e w3 ⟨va, vc, oa, oc, rfl, hiv, hop, hb3, hcp⟩
 obtain ⟨hcp1, base, hbs, hro⟩ := hcp
 have HCp := Lib.hid hcp1
 have HRw := Lib.hid hro
 clear hcp1 hro
 have HT3 := Lib.hid (HT2.out.next hb3)
 have HI := Lib.hid hiv
 have HP := Lib.hid hop
 have hs3 := hb3.size
 clear hiv hop hb3 HV2 HO2 HG2 HT2 a0 a1 b0 b1 hmc
 obtain ⟨r0, r1⟩ := pair_cells HT3.out.res
 obtain ⟨fz0, fz1⟩ := pair_frozen HT3.out.res
 have HXr := Lib.hid (HT3.out.set2S (.slice va xs.length vc) (.slice oa L.length oc)).1
 have HBr2 := Lib.hid (HT3.out.set2S (.slice va xs.length vc) (.slice oa L.length oc)).2
 have HsM : Hid (w3.heap.size = ((w3.setCell ⟨w.heap.size + 1 + 1, 0, none⟩ (.slice va xs.length vc)).setCell ⟨w.heap.size + 1 + 1, 1, none⟩ (.slice oa L.length oc)).heap.size) := (pair_size _ _ _ _).symm
 have HZ6 : Hid (Own ((w3.setCell ⟨w.heap.size + 1 + 1, 0, none⟩ (.slice va xs.length vc)).setCell ⟨w.heap.size + 1 + 1, 1, none⟩ (.slice oa L.length oc)) w2.heap.size w3.heap.size va xs.length xs) := HI.out.kept fun j h1 h2 => pair_other _ _ (by omega)
 have HO6 : Hid (OwnOps ((w3.setCell ⟨w.heap.size + 1 + 1, 0, none⟩ (.slice va xs.length vc)).setCell ⟨w.heap.size + 1 + 1, 1, none⟩ (.slice oa L.length oc)) w2.heap.size w3.heap.size oa L.length L) := HP.out.kept fun j h1 h2 => pair_other _ _ (by omega)
 have hneR : ∀ g, (Value.slice oa L.length oc).ownBlock = some g → g ≠ w.heap.size + 1 + 1 := fun g hg => by have := (HRw.out.lt g hg).1; omega
 have HRo : Hid (((w3.setCell ⟨w.heap.size + 1 + 1, 0, none⟩ (.slice va xs.length vc)).setCell ⟨w.heap.size + 1 + 1, 1, none⟩ (.slice oa L.length oc)).ownsRow base 77 8 (.slice oa L.length oc) L.length (opCells L)) := row_put (row_put HRw.out hneR) hneR
 go_wp2
 change bodyPost _ _ _ _ _ ((w3.setCell ⟨w.heap.size + 1 + 1, 0, none⟩ (.slice va xs.length vc)).setCell ⟨w.heap.size + 1 + 1, 1, none⟩ (.slice oa L.length oc))
 generalize (w3.setCell ⟨w.heap.size + 1 + 1, 0, none⟩ (.slice va xs.length vc)).setCell ⟨w.heap.size + 1 + 1, 1, none⟩ (.slice oa L.length oc) = wf at HXr HBr2 HZ6 HO6 HsM HRo ⊢
 obtain ⟨q0, q1⟩ := pair_cells HXr.out
 have hsm := HsM.out
 rw [HR.out, HE.out]
 exact bodyPost_ret (v := .tuple #[.agg #[.slice va xs.length vc, .slice oa L.length oc], .bool true]) (by simp [results, Try.results22, go_sem, q0, q1]) rfl ⟨va, vc, oa, oc, rfl, HZ6.out.more (by omega) (by omega), HO6.out.more (by omega) (by omega), HBr2.out, HCp.out, base, by omega, HRo.out⟩
theorem specDelta (w : World) (B : Nat) (av ao bv bo : Option Addr) (nv cv no co mv dv mo eo : Nat) (xs : List Int) (l : List OpV) (ys : List Int) (m : List OpV) (hx : Ints w B av nv xs) (h : Ops w B ao no l) (hy : Ints w B bv mv ys) (g : Ops w B bo mo m) (hB : B ≤ w.heap.size) (hv : nv ≤ 1048576) (hn : no ≤ 1048576) (hm : ∀ i, i < no → (atOp l i).item.size ≤ 1048576) (hv2 : mv ≤ 1048576) (hn2 : mo ≤ 1048576) (hm2 : ∀ i, i < mo → (atOp m i).item.size ≤ 1048576) :
  Calls Try.prog 22 #[.agg #[.slice av nv cv, .slice ao no co], .agg #[.slice bv mv dv, .slice bo mo eo]] w (ReadPost (mergedB xs l ys m) (delVs xs (mergedB xs l ys m)) (delOs l m (mergedB xs l ys m)) w) :=
 (specDeltaK w B av ao bv bo nv cv no co mv dv mo eo xs l ys m hx h hy g hB hv hn hm hv2 hn2 hm2).mono fun _ _ h => by
  obtain ⟨va, vc, oa, oc, h1, h2, h3, h4, _⟩ := h
  exact ⟨va, vc, oa, oc, h1, h2, h3, h4⟩
end Go.Proofs.Ytdbdmfaphdjdpaa
