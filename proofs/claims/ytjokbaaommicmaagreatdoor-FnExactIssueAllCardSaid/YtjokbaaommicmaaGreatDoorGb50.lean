/- Walks and mathematics that several claims share, part 50. -/
import Derived.Test.YtjokbaaommicmaaGreatDoorGb49
import Derived.Test.YtjokbaaommicmaaGreatDoorGb48
import Derived.Test.YtjokbaaommicmaaGreatDoorGb43
import Derived.Test.YtjokbaaommicmaaGreatDoorGb30
import Derived.Test.YtjokbaaommicmaaGreatDoorGb13
import Derived.Test.YtjokbaaommicmaaGreatDoorGb42
import Derived.Deep.Cut
import Derived.Deep.RegionHeld
import Derived.Lib.Hide
import Derived.Test.YtjokbaaommicmaaGreatDoorGbA
namespace Go.Proofs.YtjokbaaommicmaaGreatDoor
set_option maxRecDepth 100000
open Go.RowKit
set_option linter.unusedVariables false
set_option linter.unusedSimpArgs false

theorem Errs.up {w : World} {B B' : Nat} {E : Int → Addr} (h : Errs w B E) (hB : B ≤ B') : Errs w B' E :=
 ⟨Nat.le_trans h.low hB, h.cells, fun c h1 h2 => by obtain ⟨a, r⟩ := h.lies c h1 h2; exact ⟨by omega, r⟩, h.ne, h.typ⟩
theorem keep_names {xs : List Int} {l : List OpV} (hc : cartB xs l = true) : (keepS (linesN xs l)).map (·.item) = (namesTo l l.length).filter fun s => !savedL l s := by
 unfold linesN itemsN keepS
 rw [if_pos hc, List.filter_map, List.map_map]
 have e : ((fun x : LnV => x.item) ∘ lineV l) = id := rfl
 rw [e, List.map_id]
 rfl
theorem clrU_step {d : Nat} {names : List ByteArray} {k : Nat} {zs : List Int} {m : List OpV} (hk : k < names.length) : clrU d (names.drop k) zs m = if (oneN zs m d 3 (names.getD k ⟨#[]⟩) 0).1 = 0 then clrU d (names.drop (k + 1)) (oneN zs m d 3 (names.getD k ⟨#[]⟩) 0).2.1 (oneN zs m d 3 (names.getD k ⟨#[]⟩) 0).2.2 else ((oneN zs m d 3 (names.getD k ⟨#[]⟩) 0).1, [], []) := by
 rw [List.drop_eq_getElem_cons hk, List.getD_eq_getElem?_getD, List.getElem?_eq_getElem hk]
 rfl
theorem oneN_pos {xs : List Int} {l : List OpV} {d : Nat} {kind : Int} {item : ByteArray} {qty : Int} (h0 : (oneN xs l d kind item qty).1 = 0) : 0 < (oneN xs l d kind item qty).2.2.length := by
 unfold oneN at h0 ⊢
 dsimp only at h0 ⊢
 split at h0
 ·rename_i h1
  rw [if_pos h1]
  split at h0
  ·rename_i h2
   rw [if_pos h2]
   show 0 < (putL l d _).length
   rw [putL_len]
   omega
  ·cases h0
 ·rename_i h1
  exact absurd h0 h1
/-- The cart when k items are removed: it lies in block rb. -/
structure ClrI (wz : World) (rb d : Nat) (T : Int × List Int × List OpV) (names : List ByteArray) (k : Nat) (zs : List Int) (m : List OpV) (vg vo vc : Nat) (oa : Option Addr) (n oc : Nat) (wr : World) : Prop where
 bel : Below rb wz wr
 rest : wr.heap[rb]? = some (.cells #[.slice (some ⟨vg, vo, none⟩) 4 vc, .slice oa n oc] 32 (0, 0))
 ints : Ints wr wr.heap.size (some ⟨vg, vo, none⟩) 4 zs
 ops : Ops wr wr.heap.size oa n m
 capv : 4 ≤ vc
 capo : Caps oa n oc
 cart : cartB zs m = true
 tot : clrU d (names.drop k) zs m = T
 own : 0 < k → ∃ mid, Own wr (rb + 1) mid (some ⟨vg, vo, none⟩) 4 zs ∧ OwnOps wr mid wr.heap.size oa n m ∧ rb + 1 ≤ mid ∧ mid ≤ wr.heap.size ∧ Caps (some ⟨vg, vo, none⟩) 4 vc
theorem ClrI.next {wz : World} {rb d : Nat} {T : Int × List Int × List OpV} {names : List ByteArray} {k : Nat} {zs : List Int} {m : List OpV} {vg vo vc : Nat} {oa : Option Addr} {n oc : Nat} {wr w2 : World} (h : ClrI wz rb d T names k zs m vg vo vc oa n oc wr) (hz : rb ≤ wz.heap.size) (hb : Below wr.heap.size wr w2) : ClrI wz rb d T names k zs m vg vo vc oa n oc w2 :=
 ⟨h.bel.trans (hb.mono (Nat.le_trans hz h.bel.size)), (hb.block _ (Array.getElem?_eq_some_iff.1 h.rest).1).trans h.rest, (h.ints.below hb (Nat.le_refl _)).more hb.size, (h.ops.below hb (Nat.le_refl _)).more hb.size, h.capv, h.capo, h.cart, h.tot, fun hk => by
  obtain ⟨mid, h1, h2, h3, h4, h5⟩ := h.own hk
  exact ⟨mid, h1.below hb h4, (h2.below hb (Nat.le_refl _)).more (Nat.le_refl _) hb.size, h3, Nat.le_trans h4 hb.size, h5⟩⟩
theorem ClrI.step {wz : World} {rb d : Nat} {T : Int × List Int × List OpV} {names : List ByteArray} {k : Nat} {zs : List Int} {m : List OpV} {vg vo vc : Nat} {oa : Option Addr} {n oc : Nat} {wr w1 w2 w3 : World} (h : ClrI wz rb d T names k zs m vg vo vc oa n oc wr) (hz : rb ≤ wz.heap.size) (hd : d < 4) (hk : k < names.length) {s : ByteArray} (hs : names.getD k ⟨#[]⟩ = s) (hb1 : Below wr.heap.size wr w1) (h0 : (oneN zs m d 3 s 0).1 = 0)
  {va : Option Addr} {vc' : Nat} {oa' : Option Addr} {oc' mid : Nat} (h2 : Own w2 w1.heap.size mid va (oneN zs m d 3 s 0).2.1.length (oneN zs m d 3 s 0).2.1) (h3 : OwnOps w2 mid w2.heap.size oa' (oneN zs m d 3 s 0).2.2.length (oneN zs m d 3 s 0).2.2) (h4 : w1.heap.size ≤ mid) (h5 : mid ≤ w2.heap.size) (h6 : Caps va (oneN zs m d 3 s 0).2.1.length vc') (h7 : Caps oa' (oneN zs m d 3 s 0).2.2.length oc') (h8 : Below w1.heap.size w1 w2) (h9 : Below w2.heap.size w2 w3) :
  ∃ vg', va = some ⟨vg', 0, none⟩ ∧ (oneN zs m d 3 s 0).2.1.length = 4 ∧ ClrI wz rb d T names (k + 1) (oneN zs m d 3 s 0).2.1 (oneN zs m d 3 s 0).2.2 vg' 0 vc' oa' (oneN zs m d 3 s 0).2.2.length oc' ((w3.setCell ⟨rb, 0, none⟩ (.slice (some ⟨vg', 0, none⟩) 4 vc')).setCell ⟨rb, 1, none⟩ (.slice oa' (oneN zs m d 3 s 0).2.2.length oc')) := by
 have hcar := oneN_cart h.cart hd h0
 have hpos := oneN_pos h0
 have htot := h.tot
 rw [clrU_step hk, hs, if_pos h0] at htot
 generalize oneN zs m d 3 s 0 = r at *
 obtain ⟨hl4, _⟩ := cart_vecs hcar
 rw [hl4] at h2 h6
 obtain ⟨vg', cur, hva, _⟩ := h2.2 (by omega)
 subst hva
 have hrb : rb < wr.heap.size := (Array.getElem?_eq_some_iff.1 h.rest).1
 have hs1 := hb1.size
 have hs2 := h8.size
 have hs3 := h9.size
 have e3 : w3.heap[rb]? = some (.cells #[.slice (some ⟨vg, vo, none⟩) 4 vc, .slice oa n oc] 32 (0, 0)) := (h9.block _ (by omega)).trans ((h8.block _ (by omega)).trans ((hb1.block _ hrb).trans h.rest))
 have hot : ∀ j, j ≠ rb → ((w3.setCell ⟨rb, 0, none⟩ (.slice (some ⟨vg', 0, none⟩) 4 vc')).setCell ⟨rb, 1, none⟩ (.slice oa' r.2.2.length oc')).heap[j]? = w3.heap[j]? := fun j hj => pair_other _ _ hj
 have hsz := pair_size w3 rb (.slice (some ⟨vg', 0, none⟩) 4 vc') (.slice oa' r.2.2.length oc')
 have o2 : Own ((w3.setCell ⟨rb, 0, none⟩ (.slice (some ⟨vg', 0, none⟩) 4 vc')).setCell ⟨rb, 1, none⟩ (.slice oa' r.2.2.length oc')) (rb + 1) mid (some ⟨vg', 0, none⟩) 4 r.2.1 := ((h2.below h9 h5).kept (fun j a b => hot j (by omega))).more (by omega) (Nat.le_refl _)
 have o3 := (h3.below h9 (Nat.le_refl _)).kept (w' := (w3.setCell ⟨rb, 0, none⟩ (.slice (some ⟨vg', 0, none⟩) 4 vc')).setCell ⟨rb, 1, none⟩ (.slice oa' r.2.2.length oc')) (fun j a b => hot j (by omega))
 refine ⟨vg', rfl, hl4, ⟨?_, pair_set _ _ e3, ?_, ?_, h6.1, h7, hcar, htot, fun _ => ⟨mid, o2, ?_, by omega, by omega, h6⟩⟩⟩
 ·have hbw : Below rb wz w3 := h.bel.trans (((hb1.mono (by omega)).trans (h8.mono (by omega))).trans (h9.mono (by omega)))
  exact (hbw.setCell (p := ⟨rb, 0, none⟩) (Nat.le_refl _) _).setCell (p := ⟨rb, 1, none⟩) (Nat.le_refl _) _
 ·exact o2.ints.more (by omega)
 ·rw [hsz]
  exact o3.ops.more (by omega)
 ·rw [hsz]
  exact o3.more (Nat.le_refl _) (by omega)
set_option maxHeartbeats 40000000 in
theorem clearedW (w : World) (B : Nat) (E : Int → Addr) (hE : Errs w B E) (g off : Nat) (ao : Option Addr) (cv no co d : Nat) (xs : List Int) (l : List OpV) (hx : Ints w B (some ⟨g, off, none⟩) 4 xs) (h : Ops w B ao no l) (hB : B ≤ w.heap.size) (hcv : 4 ≤ cv) (hco : Caps ao no co) (hc : cartB xs l = true) (hd : d < 4) :
  Calls Tryz.prog 97 #[.agg #[.slice (some ⟨g, off, none⟩) 4 cv, .slice ao no co], .int .i64 (d : Int)] w (ChP E (clrN xs l d) w) := by
 have hno : no ≤ 160 := by rw [← h.1]; exact cart_length hc
 have HM : Hid (∀ o ∈ l, o.item.size ≤ 1048576) := fun o ho => by
  obtain ⟨i, hi, rfl⟩ := List.getElem_of_mem ho
  have h2 := (op_bounds (cart_op hc hi)).2.2.2.2.1
  have e : atOp l i = l[i] := by unfold atOp; rw [List.getD_eq_getElem?_getD, List.getElem?_eq_getElem hi]; rfl
  rw [e] at h2
  omega
 obtain ⟨T, hT0⟩ : ∃ T, T = clrN xs l d := ⟨_, rfl⟩
 rw [← hT0]
 obtain ⟨names, hnm⟩ : ∃ names, names = (namesTo l l.length).filter fun s => !savedL l s := ⟨_, rfl⟩
 have HTN : Hid (names = [] → T = (2, [], [])) := fun e => by rw [hT0, clr_impl hc hd, ← hnm, if_pos e]
 have HTY : Hid (names ≠ [] → T = clrU d names xs l) := fun e => by rw [hT0, clr_impl hc hd, ← hnm, if_neg e]
 have HNI : Hid (∀ s ∈ names, s.size ≤ 1048576) := fun s hs => by
  rw [hnm] at hs
  have hs2 := (List.mem_filter.1 hs).1
  have := namesTo_size (c := 8) (fun i hi => (op_bounds (cart_op hc hi)).2.2.2.2.1) (Nat.le_refl _) hs2
  omega
 have HFN : Hid ((keepS (linesN xs l)).map (·.item) = names) := (keep_names hc).trans hnm.symm
 have HLNl : Hid ((linesN xs l).length ≤ 1048576) := by
  have e : linesN xs l = (namesTo l l.length).map (lineV l) := by unfold linesN itemsN; rw [if_pos hc]
  have h3 := namesTo_len l l.length
  have h4 := cart_length hc
  show _ ≤ _
  rw [e, List.length_map]
  omega
 have hT := Two.mk0 w #[.slice (some ⟨g, off, none⟩) 4 cv, .slice ao no co] #[.slice none 0 0, .slice none 0 0] 32
 have HV := Lib.hid (hx.below hT.bel hB)
 have HO := Lib.hid (h.below hT.bel hB)
 have HE := Lib.hid (hE.below hT.bel hB)
 have HT := Lib.hid hT
 have HCO := Lib.hid hco
 have HC := Lib.hid hc
 have hE5 := hE.low
 clear hx h hT hco hE hc hT0 hnm
 go_enter Tryz.func97, Tryz.ntmps97
 go_upto_region 1 with fail
 generalize (w.alloc (.cells #[.slice (some ⟨g, off, none⟩) 4 cv, .slice ao no co] 32)).alloc (.cells #[.slice none 0 0, .slice none 0 0] 32) = w0 at HV HO HE HT ⊢
 have hs0 := two_lt HT.out
 obtain ⟨c0, c1⟩ := pair_cells HT.out.fst
 go_wp2_with fail
 refine (implLinesR w0 B (some ⟨g, off, none⟩) ao 4 cv no co xs l HV.out HO.out (by omega) (by omega) HCO.out.1 ⟨by omega, HCO.out.2.1⟩ HM.out).mono ?_
 rintro e w1 ⟨la, lc, rfl, hrow, hb1⟩
 have HRow := Lib.hid hrow
 have HB1 := Lib.hid hb1
 clear hrow hb1 c0 c1
 generalize linesN xs l = LN at HFN HLNl HRow ⊢
 go_wp2_with fail
 refine (deleteFuncW w1 w0.heap.size la LN.length lc LN HRow.out HB1.out.size HLNl.out).mono ?_
 rintro e w2 ⟨fa, fc, rfl, hF, hfc, hb2⟩
 have hb02 : Below w0.heap.size w0 w2 := HB1.out.trans hb2
 have HT2 := Lib.hid (HT.out.next hb02)
 have HV2 := Lib.hid (HV.out.below hb02 (by omega))
 have HO2 := Lib.hid (HO.out.below hb02 (by omega))
 have HE2 := Lib.hid (HE.out.below hb02 (by omega))
 have hs2 := hb02.size
 have HF2 := Lib.hid hF
 have hFl : (keepS LN).length ≤ 1048576 := Nat.le_trans (List.length_filter_le _ _) HLNl.out
 clear hF hb2 hb02 HB1 HRow HT HV HO HE HLNl
 generalize keepS LN = F at HFN HF2 hfc hFl ⊢
 obtain ⟨c0, c1⟩ := pair_cells HT2.out.fst
 by_cases hf0 : F.length = 0
 ·have hfe : F = [] := List.eq_nil_of_length_eq_zero hf0
  have HTG : Hid (T = (2, [], [])) := HTN.out (by rw [← HFN.out, hfe]; rfl)
  rw [hf0]
  have g2 := gErr2 HE2.out
  go_wp2_with fail
  refine wp_region_held_drew (S := fun w' => w'.cell? ⟨2, 0, none⟩ = some (.iface 240 (.pointer (some (E 2))))) (by kernel_rfl) g2 (fun hHeld => ?_)
  have HBz : Hid (Below w2.heap.size w2 w2.drew) := ⟨rfl, rfl, rfl, Nat.le_refl _, fun _ _ => rfl⟩
  generalize w2.drew = z0 at HBz hHeld ⊢
  have HTz := Lib.hid (HT2.out.next HBz.out)
  obtain ⟨r0, r1⟩ := pair_cells HTz.out.snd
  obtain ⟨rf0, rf1⟩ := pair_frozen HTz.out.snd
  refine tk 0 ⟨some 18, .build 32 #[], 32, "l06_commands.go:183", #[], none⟩ ?_
  (try simp only [Act.put, u1, u2, u3])
  refine tk 1 ⟨some 19, .load 65 (Operand.global 2), 65, "l06_commands.go:183", #[{ on := 2, ground := Ground.gcOnly Departure.lateStores }], none⟩ ?_
  (try simp only [Act.put, u1, u2, u3])
  refine rk 2 rfl (fun K hK => ?_)
  go_simp
  refine hK.out _ _ ((World.cell?_of_block (a := ⟨2, 0, none⟩) (pair_other (w := z0) (b := w.heap.size + 1) (k := 2) (.slice none 0 0) (.slice none 0 0) (by omega))).trans hHeld) (fun hHeld2 => ?_)
  clear hK K
  (try simp only [Act.put, u1, u2, u3])
  refine tk 3 ⟨some 5, .assign (.tmp 19), 65, "l06_commands.go:183", #[⟨1, .data⟩, ⟨2, .chain⟩, ⟨0, .phase⟩, ⟨1, .phase⟩, ⟨2, .phase⟩], none⟩ ?_
  (try simp only [Act.put, u1, u2, u3])
  refine wpAnyH_done (by kernel_rfl) ?_ _
  have HX := Lib.hid (two_set2 HTz.out (.slice none 0 0) (.slice none 0 0)).1
  have HBf := Lib.hid (HTz.out.bel.trans ((two_set2 HTz.out (.slice none 0 0) (.slice none 0 0)).2.mono (by omega)))
  go_wp2
  change bodyPost _ _ _ _ _ ((z0.setCell ⟨w.heap.size + 1, 0, none⟩ (.slice none 0 0)).setCell ⟨w.heap.size + 1, 1, none⟩ (.slice none 0 0))
  clear r0 r1 rf0 rf1 hHeld hHeld2
  generalize ((z0.setCell ⟨w.heap.size + 1, 0, none⟩ (.slice none 0 0)).setCell ⟨w.heap.size + 1, 1, none⟩ (.slice none 0 0)) = wf at HX HBf ⊢
  obtain ⟨q0, q1⟩ := pair_cells HX.out
  exact bodyPost_ret (v := .tuple #[.agg #[.slice none 0 0, .slice none 0 0], (.iface 240 (.pointer (some (E 2))))]) (by simp [results, Tryz.results97, go_sem, q0, q1]) rfl ((show ChP E (2, [], []) w _ wf from .inl ⟨by decide, by rw [errV_2], HBf.out⟩).eqr HTG.out.symm)
 have hne : names ≠ [] := fun e => hf0 (by rw [← HFN.out] at e; have := congrArg List.length e; simpa using this)
 have HTG : Hid (clrU d names xs l = T) := (HTY.out hne).symm
 have hnl : names.length = F.length := by rw [← HFN.out, List.length_map]
 have hfz : ((F.length : Int) == 0) = false := beq_eq_false_iff_ne.2 (by omega)
 have hfy : ¬ ((F.length : Int) = 0) := by omega
 clear HTN HTY hne
 go_upto_region 5 with fail
 have hbb := (Below.refl w2.heap.size w2).alloc (Nat.le_refl _) (.cells #[.slice (some ⟨g, off, none⟩) 4 cv, .slice ao no co] 32)
 have HTz := Lib.hid (HT2.out.next hbb)
 have HFz := Lib.hid (HF2.out.below hbb (Nat.le_refl _))
 have HEz := Lib.hid (HE2.out.below hbb (by omega))
 have hsz := hbb.size
 have HN := Lib.hid (heap_alloc_new w2 (.cells #[.slice (some ⟨g, off, none⟩) 4 cv, .slice ao no co] 32))
 have HVz := Lib.hid (HV2.out.below hbb (by omega))
 have HOz := Lib.hid (HO2.out.below hbb (by omega))
 clear hbb c0 c1 HT2 HF2 HE2 HV2 HO2
 generalize w2.alloc (.cells #[.slice (some ⟨g, off, none⟩) 4 cv, .slice ao no co] 32) = wz at HTz HFz HEz hsz HN HVz HOz ⊢
 generalize w2.heap.size = rb at hs2 hsz HFz HN ⊢
 have hrb : rb < wz.heap.size := (Array.getElem?_eq_some_iff.1 HN.out).1
 have HI0 : Hid (ClrI wz rb d T names 0 xs l g off cv ao no co wz) := ⟨Below.refl _ _, HN.out, HVz.out.more (by omega), HOz.out.more (by omega), hcv, HCO.out, HC.out, HTG.out, fun h => absurd h (by omega)⟩
 clear HN HVz HOz
 go_wp2
 go_loopw [23] (fun i wr => ∃ (k : Nat) (zs : List Int) (m : List OpV) (vg vo vc : Nat) (oa : Option Addr) (n oc : Nat), k ≤ F.length ∧ i = .int .i64 (k : Int) ∧ Hid (ClrI wz rb d T names k zs m vg vo vc oa n oc wr)) (fun i _ => F.length - (intOf i).toNat)
 case atStart => exact ⟨0, xs, l, g, off, cv, ao, no, co, Nat.zero_le _, rfl, HI0⟩
 case round =>
  obtain ⟨k, zs, m, vg, vo, vc, oa, n, oc, hk, rfl, HI⟩ := hrel
  clear HI0
  have hwr := HI.out.bel.size
  obtain ⟨x0, x1⟩ := pair_cells HI.out.rest
  by_cases hlt : k < F.length
  rotate_left
  ·obtain rfl : k = F.length := by omega
   have hki : ¬ ((F.length : Int) < (F.length : Int)) := by omega
   have HTr : Hid (Two w wr #[.slice (some ⟨g, off, none⟩) 4 cv, .slice ao no co] #[.slice none 0 0, .slice none 0 0] 32) := ⟨(HI.out.bel.block _ (by omega)).trans HTz.out.fst, (HI.out.bel.block _ (by omega)).trans HTz.out.snd, HTz.out.bel.trans (HI.out.bel.mono (by omega))⟩
   have HTT : Hid (T = (0, zs, m)) := by
    have := HI.out.tot
    rw [List.drop_eq_nil_of_le (by omega)] at this
    exact this.symm
   obtain ⟨r0, r1⟩ := pair_cells HTr.out.snd
   obtain ⟨rf0, rf1⟩ := pair_frozen HTr.out.snd
   have hX2 := two_set2 HTr.out (.slice (some ⟨vg, vo, none⟩) 4 vc) (.slice oa n oc)
   have HX := Lib.hid hX2.1
   have HBf : Hid (Below w.heap.size w ((wr.setCell ⟨w.heap.size + 1, 0, none⟩ (.slice (some ⟨vg, vo, none⟩) 4 vc)).setCell ⟨w.heap.size + 1, 1, none⟩ (.slice oa n oc))) := HTr.out.bel.trans (hX2.2.mono (by omega))
   obtain ⟨mid, h1, h2, h3, h4, h5⟩ := HI.out.own (by omega)
   have hl4 := (cart_vecs HI.out.cart).1
   have hml : m.length = n := h2.1
   have HOf : Hid (Own ((wr.setCell ⟨w.heap.size + 1, 0, none⟩ (.slice (some ⟨vg, vo, none⟩) 4 vc)).setCell ⟨w.heap.size + 1, 1, none⟩ (.slice oa n oc)) (rb + 1) mid (some ⟨vg, vo, none⟩) 4 zs) := h1.kept (fun j a b => pair_other _ _ (by omega))
   have HPf : Hid (OwnOps ((wr.setCell ⟨w.heap.size + 1, 0, none⟩ (.slice (some ⟨vg, vo, none⟩) 4 vc)).setCell ⟨w.heap.size + 1, 1, none⟩ (.slice oa n oc)) mid wr.heap.size oa n m) := h2.kept (fun j a b => pair_other _ _ (by omega))
   have hsf : ((wr.setCell ⟨w.heap.size + 1, 0, none⟩ (.slice (some ⟨vg, vo, none⟩) 4 vc)).setCell ⟨w.heap.size + 1, 1, none⟩ (.slice oa n oc)).heap.size = wr.heap.size := pair_size _ _ _ _
   have HC5 := Lib.hid h5
   have HC6 := Lib.hid HI.out.capo
   have HL4 := Lib.hid hl4
   have HML := Lib.hid hml
   clear hX2 h1 h2 h5 hl4 hml
   go_wp2
   change bodyPost _ _ _ _ _ ((wr.setCell ⟨w.heap.size + 1, 0, none⟩ (.slice (some ⟨vg, vo, none⟩) 4 vc)).setCell ⟨w.heap.size + 1, 1, none⟩ (.slice oa n oc))
   clear x0 x1 r0 r1 rf0 rf1
   generalize ((wr.setCell ⟨w.heap.size + 1, 0, none⟩ (.slice (some ⟨vg, vo, none⟩) 4 vc)).setCell ⟨w.heap.size + 1, 1, none⟩ (.slice oa n oc)) = wf at HX HBf HOf HPf hsf ⊢
   obtain ⟨q0, q1⟩ := pair_cells HX.out
   refine bodyPost_ret (v := .tuple #[.agg #[.slice (some ⟨vg, vo, none⟩) 4 vc, .slice oa n oc], .nilIface]) (by simp [results, Tryz.results97, go_sem, q0, q1]) rfl (ChP.eqr (show ChP E (0, zs, m) w _ wf from .inr ⟨rfl, some ⟨vg, vo, none⟩, vc, oa, oc, mid, ?_, ?_, ?_, by omega, by omega, ?_, ?_, HBf.out⟩) HTT.out.symm)
   ·show _ = Ending.returned (.tuple #[.agg #[.slice _ zs.length _, .slice _ m.length _], _])
    rw [HL4.out, HML.out]
   ·show Own wf w.heap.size mid _ zs.length zs
    rw [HL4.out]
    exact HOf.out.more (by omega) (Nat.le_refl _)
   ·show OwnOps wf mid wf.heap.size _ m.length m
    rw [HML.out, hsf]
    exact HPf.out
   ·show Caps _ zs.length vc
    rw [HL4.out]
    exact HC5.out
   ·show Caps _ m.length oc
    rw [HML.out]
    exact HC6.out
  have hki : (k : Int) < (F.length : Int) := by omega
  obtain ⟨lb, lo, rfl, hlb, hlc⟩ := (HFz.out.below HI.out.bel (Nat.le_refl _)).2 k hlt
  obtain ⟨l0, l1, l2⟩ := hlc
  have HXN : Hid (names.getD k ⟨#[]⟩ = (F.getD k LnV.zero).item) := by
   show _ = _
   rw [← HFN.out, List.getD_eq_getElem?_getD, List.getElem?_map, List.getD_eq_getElem?_getD, List.getElem?_eq_getElem hlt]
   rfl
  have hxi : (F.getD k LnV.zero).item.size ≤ 1048576 := by
   rw [← HXN.out]
   exact HNI.out _ (by rw [List.getD_eq_getElem?_getD, List.getElem?_eq_getElem (by omega)]; exact List.getElem_mem _)
  generalize F.getD k LnV.zero = x at l0 l1 l2 HXN hxi
  go_upto_region 8 with fail
  have hbb := (Below.refl wr.heap.size wr).alloc (Nat.le_refl _) (.cells #[.string x.item, .int .i64 x.qty, .bool x.saved] 172)
  have HI1 := Lib.hid (HI.out.next (by omega) hbb)
  have HB1 := Lib.hid hbb
  have HN1 := Lib.hid (heap_alloc_new wr (.cells #[.string x.item, .int .i64 x.qty, .bool x.saved] 172))
  clear hbb l0 l1 l2 x0 x1
  generalize wr.alloc (.cells #[.string x.item, .int .i64 x.qty, .bool x.saved] 172) = w1 at HI1 HB1 HN1 ⊢
  have hx1 : wr.heap.size < w1.heap.size := (Array.getElem?_eq_some_iff.1 HN1.out).1
  have HE1 := Lib.hid ((HEz.out.below HI1.out.bel (by omega)).up (B' := w1.heap.size) (by omega))
  obtain ⟨x0, x1⟩ := pair_cells HI1.out.rest
  obtain ⟨d0, d1, d2⟩ := ln3_cells HN1.out
  go_wp2_with fail
  refine (withItemChangedW w1 w1.heap.size E HE1.out vg vo oa vc n oc d zs m 3 0 0 0 x.item HI1.out.ints HI1.out.ops (Nat.le_refl _) HI1.out.capv HI1.out.capo HI1.out.cart hd hxi).mono ?_
  intro e w2 hch
  have hb2 := hch.bel
  have HI2 := Lib.hid (HI1.out.next (by omega) hb2)
  have hs12 := hb2.size
  clear x0 x1 d0 d1 d2 HN1 HE1
  rcases hch with ⟨h1, rfl, _⟩ | ⟨h1, va, vc', oa', oc', mid, rfl, h2, h3, h4, h5, h6, h7, h8⟩
  ·have HTT : Hid (T = ((oneN zs m d 3 x.item 0).1, [], [])) := by
    have := HI.out.tot
    rw [clrU_step (by omega), HXN.out, if_neg h1] at this
    exact this.symm
   obtain ⟨code, hcode⟩ : ∃ code, code = (oneN zs m d 3 x.item 0).1 := ⟨_, rfl⟩
   rw [← hcode] at h1 HTT ⊢
   have her2 : errV E code = .iface 240 (.pointer (some (E code))) := by unfold errV; rw [if_neg h1]
   rw [her2]
   have HER := Lib.hid her2
   clear hcode her2 hb2 HI1 HI HB1
   go_upto_region 9 with fail
   have hbb := (Below.refl w2.heap.size w2).alloc (Nat.le_refl _) (.cells #[.slice none 0 0, .slice none 0 0] 32)
   have HI3 := Lib.hid (HI2.out.next (by omega) hbb)
   clear hbb HI2
   generalize w2.alloc (.cells #[.slice none 0 0, .slice none 0 0] 32) = w3 at HI3 ⊢
   generalize w2.heap.size = nb at hs12 ⊢
   have HTr : Hid (Two w w3 #[.slice (some ⟨g, off, none⟩) 4 cv, .slice ao no co] #[.slice none 0 0, .slice none 0 0] 32) := ⟨(HI3.out.bel.block _ (by omega)).trans HTz.out.fst, (HI3.out.bel.block _ (by omega)).trans HTz.out.snd, HTz.out.bel.trans (HI3.out.bel.mono (by omega))⟩
   obtain ⟨r0, r1⟩ := pair_cells HTr.out.snd
   obtain ⟨rf0, rf1⟩ := pair_frozen HTr.out.snd
   have HX := Lib.hid (two_set2 HTr.out (.slice none 0 0) (.slice none 0 0)).1
   have HBf := Lib.hid (HTr.out.bel.trans ((two_set2 HTr.out (.slice none 0 0) (.slice none 0 0)).2.mono (by omega)))
   go_wp2
   change bodyPost _ _ _ _ _ ((w3.setCell ⟨w.heap.size + 1, 0, none⟩ (.slice none 0 0)).setCell ⟨w.heap.size + 1, 1, none⟩ (.slice none 0 0))
   clear r0 r1 rf0 rf1
   generalize ((w3.setCell ⟨w.heap.size + 1, 0, none⟩ (.slice none 0 0)).setCell ⟨w.heap.size + 1, 1, none⟩ (.slice none 0 0)) = wf at HX HBf ⊢
   obtain ⟨q0, q1⟩ := pair_cells HX.out
   exact bodyPost_ret (v := .tuple #[.agg #[.slice none 0 0, .slice none 0 0], (.iface 240 (.pointer (some (E code))))]) (by simp [results, Tryz.results97, go_sem, q0, q1]) rfl ((show ChP E (code, [], []) w _ wf from .inl ⟨h1, by rw [← HER.out], HBf.out⟩).eqr HTT.out.symm)
  ·obtain ⟨R, hR⟩ : ∃ R, R = oneN zs m d 3 x.item 0 := ⟨_, rfl⟩
   have hst := fun w3 h9 => HI.out.step (w3 := w3) (by omega) hd (by omega) HXN.out HB1.out h1 h2 h3 h4 h5 h6 h7 h8 h9
   rw [← hR] at hst ⊢
   have HST := Lib.hid hst
   clear hst h1 h2 h3 h4 h5 h6 h7 h8 hR hb2 HI1 HI HB1
   go_upto_region 9 with fail
   have hbb := (Below.refl w2.heap.size w2).alloc (Nat.le_refl _) (.cells #[.slice va R.2.1.length vc', .slice oa' R.2.2.length oc'] 32)
   have HI3 := Lib.hid (HI2.out.next (by omega) hbb)
   have HS3 := Lib.hid (HST.out _ hbb)
   have HN3 := Lib.hid (heap_alloc_new w2 (.cells #[.slice va R.2.1.length vc', .slice oa' R.2.2.length oc'] 32))
   clear hbb HI2 HST
   generalize w2.alloc (.cells #[.slice va R.2.1.length vc', .slice oa' R.2.2.length oc'] 32) = w3 at HI3 HS3 HN3 ⊢
   obtain ⟨vg', rfl, hl4, hst⟩ := HS3.out
   have HST := Lib.hid hst
   rw [hl4] at HN3 ⊢
   clear HS3 hl4 hst
   have hx3 : w2.heap.size < w3.heap.size := (Array.getElem?_eq_some_iff.1 HN3.out).1
   generalize w2.heap.size = nb at hs12 HN3 hx3 ⊢
   obtain ⟨x0, x1⟩ := pair_cells HI3.out.rest
   obtain ⟨xf0, xf1⟩ := pair_frozen HI3.out.rest
   obtain ⟨n0, n1⟩ := pair_cells HN3.out
   go_upto_region 12 with fail
   generalize (w3.setCell ⟨rb, 0, none⟩ (.slice (some ⟨vg', 0, none⟩) 4 vc')).setCell ⟨rb, 1, none⟩ (.slice oa' R.2.2.length oc') = w4 at HST ⊢
   clear x0 x1 xf0 xf1 n0 n1 HI3 HN3
   go_wp2
   go_roundw
   case rel => exact ⟨k + 1, R.2.1, R.2.2, vg', 0, vc', oa', R.2.2.length, oc', by omega, by go_num, HST⟩
   case measure => simp [intOf]; omega
set_option linter.unusedVariables false
set_option linter.unusedSimpArgs false

theorem in_dev {d : Nat} (hd : d < 4) : inB (d : Int) 0 3 = true := inB_yes (by omega) (by omega)
theorem undoN_yes {xs : List Int} {l : List OpV} {d : Nat} (hc : cartB xs l = true) (hd : d < 4) : undoN xs l (d : Int) = undoTo (d : Int) l l.length := by
 unfold undoN
 rw [if_pos ⟨hc, in_dev hd⟩]
theorem redoN_yes {xs : List Int} {l : List OpV} {d : Nat} (hc : cartB xs l = true) (hd : d < 4) : redoN xs l (d : Int) = redoTo xs d l := by
 unfold redoN
 rw [if_pos ⟨hc, in_dev hd⟩]
 rfl
set_option maxHeartbeats 40000000 in
theorem changedW (w : World) (B : Nat) (E : Int → Addr) (hE : Errs w B E) (g off : Nat) (ao : Option Addr) (cv no co d : Nat) (xs : List Int) (l : List OpV) (kind qty dv sq : Int) (item : ByteArray) (hx : Ints w B (some ⟨g, off, none⟩) 4 xs) (h : Ops w B ao no l) (hB : B ≤ w.heap.size) (hcv : 4 ≤ cv) (hco : Caps ao no co) (hc : cartB xs l = true) (hd : d < 4) (hi : item.size ≤ 1048576) (hk9 : kind = 9 → 0 ≤ dv ∧ dv ≤ 3) :
  Calls Tryz.prog 77 #[.agg #[.slice (some ⟨g, off, none⟩) 4 cv, .slice ao no co], .int .i64 (d : Int), .agg #[.int .i64 kind, .string item, .int .i64 qty, .int .i64 dv, .int .i64 sq]] w (ChP E (l6N xs l d kind item qty dv sq) w) := by
 have hno : no ≤ 160 := by rw [← h.1]; exact cart_length hc
 obtain ⟨T, hT0⟩ : ∃ T, T = l6N xs l d kind item qty dv sq := ⟨_, rfl⟩
 rw [← hT0]
 have HTT := Lib.hid hT0
 have hT := Trio.mk0 w #[.slice (some ⟨g, off, none⟩) 4 cv, .slice ao no co] #[.int .i64 kind, .string item, .int .i64 qty, .int .i64 dv, .int .i64 sq] #[.slice none 0 0, .slice none 0 0] 32 36 32
 have HV := Lib.hid (hx.below hT.bel hB)
 have HO := Lib.hid (h.below hT.bel hB)
 have HE := Lib.hid (hE.below hT.bel hB)
 have HT := Lib.hid hT
 have HCO := Lib.hid hco
 have HC := Lib.hid hc
 have HU := Lib.hid (undoN_yes hc hd)
 have HRd := Lib.hid (redoN_yes hc hd)
 have HK9 := Lib.hid hk9
 clear hx h hT hco hE hc hT0 hk9
 go_enter Tryz.func77, Tryz.ntmps77
 go_upto_region 1 with fail
 generalize ((w.alloc (.cells #[.slice (some ⟨g, off, none⟩) 4 cv, .slice ao no co] 32)).alloc (.cells #[.int .i64 kind, .string item, .int .i64 qty, .int .i64 dv, .int .i64 sq] 36)).alloc (.cells #[.slice none 0 0, .slice none 0 0] 32) = w0 at HV HO HE HT ⊢
 have hs0 := HT.out.lt
 obtain ⟨c0, c1⟩ := pair_cells HT.out.fst
 obtain ⟨d0, d1, d2, d3, d4⟩ := cmd_cells5 HT.out.snd
 by_cases k6 : kind = 6
 ·subst k6
  go_wp2_with fail
  refine (clearedW w0 B E HE.out g off ao cv no co d xs l HV.out HO.out (by omega) hcv HCO.out  HC.out hd).mono ?_
  intro e w3 hch
  obtain ⟨a, n, c, a', n', c', er, rfl⟩ := hch.form
  have HCh := Lib.hid hch
  have hb3 := hch.bel
  have HT3 := Lib.hid (HT.out.next hb3)
  have hs3 := hb3.size
  clear hch hb3 c0 c1 d0 d1 d2 d3 d4
  obtain ⟨r0, r1⟩ := pair_cells HT3.out.res
  obtain ⟨rf0, rf1⟩ := pair_frozen HT3.out.res
  have HX := Lib.hid (HT3.out.set2 (.slice a n c) (.slice a' n' c')).1
  have HBf := Lib.hid (HT3.out.bel.trans ((HT3.out.set2 (.slice a n c) (.slice a' n' c')).2.mono (by omega)))
  have hszf := pair_size w3 (w.heap.size + 1 + 1) (.slice a n c) (.slice a' n' c')
  have HKf : Hid (∀ j, w0.heap.size ≤ j → ((w3.setCell ⟨w.heap.size + 1 + 1, 0, none⟩ (.slice a n c)).setCell ⟨w.heap.size + 1 + 1, 1, none⟩ (.slice a' n' c')).heap[j]? = w3.heap[j]?) := fun j hj => pair_other _ _ (by omega)
  go_wp2
  change bodyPost _ _ _ _ _ ((w3.setCell ⟨w.heap.size + 1 + 1, 0, none⟩ (.slice a n c)).setCell ⟨w.heap.size + 1 + 1, 1, none⟩ (.slice a' n' c'))
  clear r0 r1 rf0 rf1
  generalize ((w3.setCell ⟨w.heap.size + 1 + 1, 0, none⟩ (.slice a n c)).setCell ⟨w.heap.size + 1 + 1, 1, none⟩ (.slice a' n' c')) = wf at HX HBf HKf hszf ⊢
  obtain ⟨q0, q1⟩ := pair_cells HX.out
  exact bodyPost_ret (v := .tuple #[.agg #[.slice a n c, .slice a' n' c'], er]) (by simp [results, Tryz.results77, go_sem, q0, q1]) rfl ((HCh.out.up (by omega) HKf.out hszf HBf.out).eqr (by rw [HTT.out]; unfold l6N; rw [if_pos rfl]))
 have k6b : (kind == 6) = false := beq_eq_false_iff_ne.2 k6
 by_cases k7 : kind = 7
 ·subst k7
  go_wp2_with fail
  refine (implUndo w0 B (some ⟨g, off, none⟩) ao 4 cv no co xs l (d : Int) HV.out HO.out (by omega) (by omega) HCO.out.1 ⟨by omega, HCO.out.2.1⟩).mono ?_
  rintro e w1 ⟨rfl, hb1⟩
  rw [HU.out]
  have HT1 := Lib.hid (HT.out.next hb1)
  have HV1 := Lib.hid (HV.out.below hb1 (by omega))
  have HO1 := Lib.hid (HO.out.below hb1 (by omega))
  have HE1 := Lib.hid (HE.out.below hb1 (by omega))
  have hs1 := hb1.size
  clear hb1 c0 c1 d0 d1 d2 d3 d4 HT HV HO HE
  obtain ⟨tg, htg⟩ : ∃ tg, tg = undoTo (d : Int) l l.length := ⟨_, rfl⟩
  rw [← htg]
  have HTG := Lib.hid htg
  clear htg
  obtain ⟨c0, c1⟩ := pair_cells HT1.out.fst
  obtain ⟨d0, d1, d2, d3, d4⟩ := cmd_cells5 HT1.out.snd
  go_wp2_with fail
  refine (undoneOnceMoreW w1 B E HE1.out g off ao cv no co d xs l tg HV1.out HO1.out (by omega) hcv HCO.out  HC.out hd).mono ?_
  intro e w3 hch
  obtain ⟨a, n, c, a', n', c', er, rfl⟩ := hch.form
  have HCh := Lib.hid hch
  have hb3 := hch.bel
  have HT3 := Lib.hid (HT1.out.next hb3)
  have hs3 := hb3.size
  clear hch hb3 c0 c1 d0 d1 d2 d3 d4
  obtain ⟨r0, r1⟩ := pair_cells HT3.out.res
  obtain ⟨rf0, rf1⟩ := pair_frozen HT3.out.res
  have HX := Lib.hid (HT3.out.set2 (.slice a n c) (.slice a' n' c')).1
  have HBf := Lib.hid (HT3.out.bel.trans ((HT3.out.set2 (.slice a n c) (.slice a' n' c')).2.mono (by omega)))
  have hszf := pair_size w3 (w.heap.size + 1 + 1) (.slice a n c) (.slice a' n' c')
  have HKf : Hid (∀ j, w1.heap.size ≤ j → ((w3.setCell ⟨w.heap.size + 1 + 1, 0, none⟩ (.slice a n c)).setCell ⟨w.heap.size + 1 + 1, 1, none⟩ (.slice a' n' c')).heap[j]? = w3.heap[j]?) := fun j hj => pair_other _ _ (by omega)
  go_wp2
  change bodyPost _ _ _ _ _ ((w3.setCell ⟨w.heap.size + 1 + 1, 0, none⟩ (.slice a n c)).setCell ⟨w.heap.size + 1 + 1, 1, none⟩ (.slice a' n' c'))
  clear r0 r1 rf0 rf1
  generalize ((w3.setCell ⟨w.heap.size + 1 + 1, 0, none⟩ (.slice a n c)).setCell ⟨w.heap.size + 1 + 1, 1, none⟩ (.slice a' n' c')) = wf at HX HBf HKf hszf ⊢
  obtain ⟨q0, q1⟩ := pair_cells HX.out
  exact bodyPost_ret (v := .tuple #[.agg #[.slice a n c, .slice a' n' c'], er]) (by simp [results, Tryz.results77, go_sem, q0, q1]) rfl ((HCh.out.up (by omega) HKf.out hszf HBf.out).eqr (by rw [HTT.out]; unfold l6N; rw [if_neg (by decide)]; rw [if_pos rfl, HTG.out]))
 have k7b : (kind == 7) = false := beq_eq_false_iff_ne.2 k7
 by_cases k8 : kind = 8
 ·subst k8
  go_wp2_with fail
  refine (implRedo w0 B (some ⟨g, off, none⟩) ao 4 cv no co xs l (d : Int) HV.out HO.out (by omega) (by omega) HCO.out.1 ⟨by omega, HCO.out.2.1⟩).mono ?_
  rintro e w1 ⟨rfl, hb1⟩
  rw [HRd.out]
  have HT1 := Lib.hid (HT.out.next hb1)
  have HV1 := Lib.hid (HV.out.below hb1 (by omega))
  have HO1 := Lib.hid (HO.out.below hb1 (by omega))
  have HE1 := Lib.hid (HE.out.below hb1 (by omega))
  have hs1 := hb1.size
  clear hb1 c0 c1 d0 d1 d2 d3 d4 HT HV HO HE
  obtain ⟨tg, htg⟩ : ∃ tg, tg = redoTo xs d l := ⟨_, rfl⟩
  rw [← htg]
  have HTG := Lib.hid htg
  clear htg
  obtain ⟨c0, c1⟩ := pair_cells HT1.out.fst
  obtain ⟨d0, d1, d2, d3, d4⟩ := cmd_cells5 HT1.out.snd
  go_wp2_with fail
  refine (undoneOnceMoreW w1 B E HE1.out g off ao cv no co d xs l tg HV1.out HO1.out (by omega) hcv HCO.out  HC.out hd).mono ?_
  intro e w3 hch
  obtain ⟨a, n, c, a', n', c', er, rfl⟩ := hch.form
  have HCh := Lib.hid hch
  have hb3 := hch.bel
  have HT3 := Lib.hid (HT1.out.next hb3)
  have hs3 := hb3.size
  clear hch hb3 c0 c1 d0 d1 d2 d3 d4
  obtain ⟨r0, r1⟩ := pair_cells HT3.out.res
  obtain ⟨rf0, rf1⟩ := pair_frozen HT3.out.res
  have HX := Lib.hid (HT3.out.set2 (.slice a n c) (.slice a' n' c')).1
  have HBf := Lib.hid (HT3.out.bel.trans ((HT3.out.set2 (.slice a n c) (.slice a' n' c')).2.mono (by omega)))
  have hszf := pair_size w3 (w.heap.size + 1 + 1) (.slice a n c) (.slice a' n' c')
  have HKf : Hid (∀ j, w1.heap.size ≤ j → ((w3.setCell ⟨w.heap.size + 1 + 1, 0, none⟩ (.slice a n c)).setCell ⟨w.heap.size + 1 + 1, 1, none⟩ (.slice a' n' c')).heap[j]? = w3.heap[j]?) := fun j hj => pair_other _ _ (by omega)
  go_wp2
  change bodyPost _ _ _ _ _ ((w3.setCell ⟨w.heap.size + 1 + 1, 0, none⟩ (.slice a n c)).setCell ⟨w.heap.size + 1 + 1, 1, none⟩ (.slice a' n' c'))
  clear r0 r1 rf0 rf1
  generalize ((w3.setCell ⟨w.heap.size + 1 + 1, 0, none⟩ (.slice a n c)).setCell ⟨w.heap.size + 1 + 1, 1, none⟩ (.slice a' n' c')) = wf at HX HBf HKf hszf ⊢
  obtain ⟨q0, q1⟩ := pair_cells HX.out
  exact bodyPost_ret (v := .tuple #[.agg #[.slice a n c, .slice a' n' c'], er]) (by simp [results, Tryz.results77, go_sem, q0, q1]) rfl ((HCh.out.up (by omega) HKf.out hszf HBf.out).eqr (by rw [HTT.out]; unfold l6N; rw [if_neg (by decide)]; rw [if_neg (by decide)]; rw [if_pos rfl, HTG.out]))
 have k8b : (kind == 8) = false := beq_eq_false_iff_ne.2 k8
 by_cases k9 : kind = 9
 ·subst k9
  obtain ⟨hv0, hv1⟩ := HK9.out rfl
  obtain ⟨dd, rfl⟩ : ∃ dd : Nat, dv = (dd : Int) := ⟨dv.toNat, by omega⟩
  have hdd : dd < 4 := by omega
  go_wp2_with fail
  refine (undoneOnceMoreW w0 B E HE.out g off ao cv no co dd xs l sq HV.out HO.out (by omega) hcv HCO.out  HC.out hdd).mono ?_
  intro e w3 hch
  obtain ⟨a, n, c, a', n', c', er, rfl⟩ := hch.form
  have HCh := Lib.hid hch
  have hb3 := hch.bel
  have HT3 := Lib.hid (HT.out.next hb3)
  have hs3 := hb3.size
  clear hch hb3 c0 c1 d0 d1 d2 d3 d4
  obtain ⟨r0, r1⟩ := pair_cells HT3.out.res
  obtain ⟨rf0, rf1⟩ := pair_frozen HT3.out.res
  have HX := Lib.hid (HT3.out.set2 (.slice a n c) (.slice a' n' c')).1
  have HBf := Lib.hid (HT3.out.bel.trans ((HT3.out.set2 (.slice a n c) (.slice a' n' c')).2.mono (by omega)))
  have hszf := pair_size w3 (w.heap.size + 1 + 1) (.slice a n c) (.slice a' n' c')
  have HKf : Hid (∀ j, w0.heap.size ≤ j → ((w3.setCell ⟨w.heap.size + 1 + 1, 0, none⟩ (.slice a n c)).setCell ⟨w.heap.size + 1 + 1, 1, none⟩ (.slice a' n' c')).heap[j]? = w3.heap[j]?) := fun j hj => pair_other _ _ (by omega)
  go_wp2
  change bodyPost _ _ _ _ _ ((w3.setCell ⟨w.heap.size + 1 + 1, 0, none⟩ (.slice a n c)).setCell ⟨w.heap.size + 1 + 1, 1, none⟩ (.slice a' n' c'))
  clear r0 r1 rf0 rf1
  generalize ((w3.setCell ⟨w.heap.size + 1 + 1, 0, none⟩ (.slice a n c)).setCell ⟨w.heap.size + 1 + 1, 1, none⟩ (.slice a' n' c')) = wf at HX HBf HKf hszf ⊢
  obtain ⟨q0, q1⟩ := pair_cells HX.out
  exact bodyPost_ret (v := .tuple #[.agg #[.slice a n c, .slice a' n' c'], er]) (by simp [results, Tryz.results77, go_sem, q0, q1]) rfl ((HCh.out.up (by omega) HKf.out hszf HBf.out).eqr (by rw [HTT.out]; unfold l6N; rw [if_neg (by decide), if_neg (by decide), if_neg (by decide), if_pos rfl]))
 have k9b : (kind == 9) = false := beq_eq_false_iff_ne.2 k9
 go_wp2_with fail
 refine (withItemChangedW w0 B E HE.out g off ao cv no co d xs l kind qty dv sq item HV.out HO.out (by omega) hcv HCO.out  HC.out hd hi).mono ?_
 intro e w3 hch
 obtain ⟨a, n, c, a', n', c', er, rfl⟩ := hch.form
 have HCh := Lib.hid hch
 have hb3 := hch.bel
 have HT3 := Lib.hid (HT.out.next hb3)
 have hs3 := hb3.size
 clear hch hb3 c0 c1 d0 d1 d2 d3 d4
 obtain ⟨r0, r1⟩ := pair_cells HT3.out.res
 obtain ⟨rf0, rf1⟩ := pair_frozen HT3.out.res
 have HX := Lib.hid (HT3.out.set2 (.slice a n c) (.slice a' n' c')).1
 have HBf := Lib.hid (HT3.out.bel.trans ((HT3.out.set2 (.slice a n c) (.slice a' n' c')).2.mono (by omega)))
 have hszf := pair_size w3 (w.heap.size + 1 + 1) (.slice a n c) (.slice a' n' c')
 have HKf : Hid (∀ j, w0.heap.size ≤ j → ((w3.setCell ⟨w.heap.size + 1 + 1, 0, none⟩ (.slice a n c)).setCell ⟨w.heap.size + 1 + 1, 1, none⟩ (.slice a' n' c')).heap[j]? = w3.heap[j]?) := fun j hj => pair_other _ _ (by omega)
 go_wp2
 change bodyPost _ _ _ _ _ ((w3.setCell ⟨w.heap.size + 1 + 1, 0, none⟩ (.slice a n c)).setCell ⟨w.heap.size + 1 + 1, 1, none⟩ (.slice a' n' c'))
 clear r0 r1 rf0 rf1
 generalize ((w3.setCell ⟨w.heap.size + 1 + 1, 0, none⟩ (.slice a n c)).setCell ⟨w.heap.size + 1 + 1, 1, none⟩ (.slice a' n' c')) = wf at HX HBf HKf hszf ⊢
 obtain ⟨q0, q1⟩ := pair_cells HX.out
 exact bodyPost_ret (v := .tuple #[.agg #[.slice a n c, .slice a' n' c'], er]) (by simp [results, Tryz.results77, go_sem, q0, q1]) rfl ((HCh.out.up (by omega) HKf.out hszf HBf.out).eqr (by rw [HTT.out]; unfold l6N; rw [if_neg k6, if_neg k7, if_neg k8, if_neg k9]))
set_option linter.unusedVariables false
set_option linter.unusedSimpArgs false

/-- What performing answers: a cart of the call's own, or a rejection with the cart that remains. -/
def PfP (E : Int → Addr) (r : Int × List Int × List OpV) (w : World) (e : Ending) (w' : World) : Prop :=
 (r.1 = 0 ∧ ChP E r w e w') ∨ (1 ≤ r.1 ∧ r.1 ≤ 4 ∧ ∃ rb ka kc oa oc mid, e = .returned (.tuple #[.agg #[.slice none 0 0, .slice none 0 0], .iface 68 (.pointer (some ⟨rb, 0, none⟩))]) ∧ w'.heap[rb]? = some (.cells #[.slice ka r.2.1.length kc, .slice oa r.2.2.length oc, errV E r.1] 72 (0, 0)) ∧ w.heap.size ≤ rb ∧ Own w' w.heap.size mid ka r.2.1.length r.2.1 ∧ OwnOps w' mid w'.heap.size oa r.2.2.length r.2.2 ∧ w.heap.size ≤ mid ∧ mid ≤ w'.heap.size ∧ Caps ka r.2.1.length kc ∧ Caps oa r.2.2.length oc ∧ Below w.heap.size w w')
theorem PfP.eqr {E : Int → Addr} {r r' : Int × List Int × List OpV} {w w' : World} {e : Ending} (h : PfP E r w e w') (e1 : r = r') : PfP E r' w e w' := e1 ▸ h
theorem errV_1 (E : Int → Addr) : errV E 1 = .iface 240 (.pointer (some (E 1))) := by unfold errV; rw [if_neg (by decide)]
theorem gErr1 {w : World} {B : Nat} {E : Int → Addr} (h : Errs w B E) : w.cell? ⟨0, 0, none⟩ = some (.iface 240 (.pointer (some (E 1)))) := h.cells 1 (by omega) (by omega)
set_option maxHeartbeats 40000000 in
theorem performedForm (w : World) (B : Nat) (E : Int → Addr) (hE : Errs w B E) (av ao : Option Addr) (nv cv no co : Nat) (xs : List Int) (l : List OpV) (dev kind qty dv sq : Int) (item : ByteArray) (hx : Ints w B av nv xs) (h : Ops w B ao no l) (hB : B ≤ w.heap.size) (hv : nv ≤ 1048576) (hc : no ≤ co) (hc2 : Fits no co) (hbad : cartB xs l = false ∨ (cartB xs l = true ∧ inB dev 0 3 = false) ∨ (cartB xs l = true ∧ inB dev 0 3 = true ∧ cmdB kind item qty dv sq = false)) :
  Calls Tryz.prog 40 #[.agg #[.slice av nv cv, .slice ao no co], .int .i64 dev, .agg #[.int .i64 kind, .string item, .int .i64 qty, .int .i64 dv, .int .i64 sq]] w (PfP E (1, [], []) w) := by
 have hT := Trio.mk0 w #[.slice av nv cv, .slice ao no co] #[.int .i64 kind, .string item, .int .i64 qty, .int .i64 dv, .int .i64 sq] #[.slice none 0 0, .slice none 0 0] 32 36 32
 have HV := Lib.hid (hx.below hT.bel hB)
 have HO := Lib.hid (h.below hT.bel hB)
 have HE := Lib.hid (hE.below hT.bel hB)
 have HT := Lib.hid hT
 have HBad := Lib.hid hbad
 have hE5 := hE.low
 clear hx h hT hE hbad
 go_enter Tryz.func40, Tryz.ntmps40
 go_upto_region 1 with fail
 generalize ((w.alloc (.cells #[.slice av nv cv, .slice ao no co] 32)).alloc (.cells #[.int .i64 kind, .string item, .int .i64 qty, .int .i64 dv, .int .i64 sq] 36)).alloc (.cells #[.slice none 0 0, .slice none 0 0] 32) = w0 at HV HO HE HT ⊢
 have hs0 := HT.out.lt
 obtain ⟨c0, c1⟩ := pair_cells HT.out.fst
 obtain ⟨d0, d1, d2, d3, d4⟩ := cmd_cells5 HT.out.snd
 go_wp2_with fail
 refine (implCartOk w0 B av ao nv cv no co xs l HV.out HO.out (by omega) hv hc hc2).mono ?_
 rintro e w1 ⟨rfl, hb1⟩
 have HT1 := Lib.hid (HT.out.next hb1)
 have HE1 := Lib.hid (HE.out.below hb1 (by omega))
 have hs1 := hb1.size
 clear hb1 c0 c1 d0 d1 d2 d3 d4 HT HE HV HO
 obtain ⟨d0, d1, d2, d3, d4⟩ := cmd_cells5 HT1.out.snd
 rcases HBad.out with hq | ⟨hq, hq2⟩ | ⟨hq, hq2, hq3⟩
 ·rw [hq]
  have g1 := gErr1 HE1.out
  go_wp2_with fail
  refine wp_region_held_drew (S := fun w' => w'.cell? ⟨0, 0, none⟩ = some (.iface 240 (.pointer (some (E 1))))) (by kernel_rfl) g1 (fun hHeld => ?_)
  have HBz : Hid (Below w1.heap.size w1 w1.drew) := ⟨rfl, rfl, rfl, Nat.le_refl _, fun _ _ => rfl⟩
  generalize w1.drew = z0 at HBz hHeld ⊢
  have HTz := Lib.hid (HT1.out.next HBz.out)
  have hsz := HBz.out.size
  have hlz := HTz.out.lt
  have hbz := HTz.out.bel.size
  refine tk 0 ⟨some 23, .build 32 #[], 32, "l06_commands.go:229", #[], none⟩ ?_
  (try simp only [Act.put, u1, u2, u3])
  refine tk 1 ⟨some 24, .load 65 (Operand.global 0), 65, "l06_commands.go:229", #[], none⟩ ?_
  (try simp only [Act.put, u1, u2, u3])
  refine tk 2 ⟨some 25, .build 72 #[(1, .tmp 24)], 72, "l06_commands.go:229", #[⟨1, .data⟩], none⟩ ?_
  (try simp only [Act.put, u1, u2, u3])
  refine wpAnyH_ready (rs := [3, 5]) (by kernel_rfl) (by simp) ?_
  refine AllReadyH.cons rfl (fun K hK => ?_) (AllReadyH.cons rfl (fun K hK => ?_) AllReadyH.nil)
  ·
   have hba : Below z0.heap.size z0 (z0.alloc (.cells #[.slice none 0 0, .slice none 0 0, (.iface 240 (.pointer (some (E 1))))] 72)) := bl
   have hSa : (z0.alloc (.cells #[.slice none 0 0, .slice none 0 0, (.iface 240 (.pointer (some (E 1))))] 72)).cell? ⟨0, 0, none⟩ = some (.iface 240 (.pointer (some (E 1)))) := (hba.cell (p := ⟨0, 0, none⟩) (by show 0 < _; omega)).trans hHeld
   have hNa := heap_alloc_new z0 (.cells #[.slice none 0 0, .slice none 0 0, (.iface 240 (.pointer (some (E 1))))] 72)
   go_simp
   refine hK.out _ _ hSa (fun _ => ?_)
   clear hK K
   (try simp only [Act.put, u1, u2, u3])
   have HTa := Lib.hid (HTz.out.next hba)
   generalize (z0.alloc (.cells #[.slice none 0 0, .slice none 0 0, (.iface 240 (.pointer (some (E 1))))] 72)) = za at hba hSa hNa HTa ⊢
   have hla : z0.heap.size < za.heap.size := (Array.getElem?_eq_some_iff.1 hNa).1
   generalize z0.heap.size = rb at hla hba hNa hlz hsz hbz ⊢
   obtain ⟨r0, r1⟩ := pair_cells HTa.out.res
   obtain ⟨rf0, rf1⟩ := pair_frozen HTa.out.res
   refine tk 4 ⟨some 27, .makeInterface 68 (.tmp 26), 65, "l06_commands.go:229", #[⟨3, .data⟩, { on := 5, ground := Ground.gcOnly Departure.lateStores }], none⟩ ?_
   (try simp only [Act.put, u1, u2, u3])
   refine rk 5 rfl (fun K hK => ?_)
   go_simp
   refine hK.out _ _ ((World.cell?_of_block (a := ⟨0, 0, none⟩) (pair_other (w := za) (b := w.heap.size + 1 + 1) (k := 0) (.slice none 0 0) (.slice none 0 0) (by omega))).trans hSa) (fun hHeld2 => ?_)
   clear hK K
   (try simp only [Act.put, u1, u2, u3])
   refine tk 6 ⟨some 7, .assign (.tmp 27), 65, "l06_commands.go:229", #[⟨4, .data⟩, ⟨5, .chain⟩, ⟨0, .phase⟩, ⟨1, .phase⟩, ⟨2, .phase⟩, ⟨3, .phase⟩, ⟨4, .phase⟩, ⟨5, .phase⟩], none⟩ ?_
   (try simp only [Act.put, u1, u2, u3])
   refine wpAnyH_done (by kernel_rfl) ?_ _
   have HX := Lib.hid (HTa.out.set2 (.slice none 0 0) (.slice none 0 0)).1
   have HBf := Lib.hid (HTa.out.bel.trans ((HTa.out.set2 (.slice none 0 0) (.slice none 0 0)).2.mono (by omega)))
   have HRb : Hid (((za.setCell ⟨w.heap.size + 1 + 1, 0, none⟩ (.slice none 0 0)).setCell ⟨w.heap.size + 1 + 1, 1, none⟩ (.slice none 0 0)).heap[rb]? = some (.cells #[.slice none 0 0, .slice none 0 0, (.iface 240 (.pointer (some (E 1))))] 72 (0, 0))) := (pair_other _ _ (by omega)).trans hNa
   clear r0 r1 rf0 rf1 hNa hba
   generalize ((za.setCell ⟨w.heap.size + 1 + 1, 0, none⟩ (.slice none 0 0)).setCell ⟨w.heap.size + 1 + 1, 1, none⟩ (.slice none 0 0)) = wf at HX HBf HRb ⊢
   go_wp2
   obtain ⟨q0, q1⟩ := pair_cells HX.out
   exact bodyPost_ret (v := .tuple #[.agg #[.slice none 0 0, .slice none 0 0], .iface 68 (.pointer (some ⟨rb, 0, none⟩))]) (by simp [results, Tryz.results40, go_sem, q0, q1]) rfl (.inr ⟨by decide, by decide, rb, none, 0, none, 0, wf.heap.size, rfl, by rw [errV_1]; exact HRb.out, by omega, own_nilP _ _ _ _, own_none _ _ _ _, HBf.out.size, Nat.le_refl _, caps_nil, caps_nil, HBf.out⟩)
  ·
   obtain ⟨r0, r1⟩ := pair_cells HTz.out.res
   obtain ⟨rf0, rf1⟩ := pair_frozen HTz.out.res
   have hSa : ((z0.setCell ⟨w.heap.size + 1 + 1, 0, none⟩ (.slice none 0 0)).setCell ⟨w.heap.size + 1 + 1, 1, none⟩ (.slice none 0 0)).cell? ⟨0, 0, none⟩ = some (.iface 240 (.pointer (some (E 1)))) := (World.cell?_of_block (a := ⟨0, 0, none⟩) (pair_other (w := z0) (b := w.heap.size + 1 + 1) (k := 0) (.slice none 0 0) (.slice none 0 0) (by omega))).trans hHeld
   have hX := (HTz.out.set2 (.slice none 0 0) (.slice none 0 0)).1
   have hBf := HTz.out.bel.trans ((HTz.out.set2 (.slice none 0 0) (.slice none 0 0)).2.mono (by omega))
   have hszz : ((z0.setCell ⟨w.heap.size + 1 + 1, 0, none⟩ (.slice none 0 0)).setCell ⟨w.heap.size + 1 + 1, 1, none⟩ (.slice none 0 0)).heap.size = z0.heap.size := pair_size _ _ _ _
   go_simp
   refine hK.out _ _ hSa (fun _ => ?_)
   clear hK K r0 r1 rf0 rf1
   (try simp only [Act.put, u1, u2, u3])
   generalize ((z0.setCell ⟨w.heap.size + 1 + 1, 0, none⟩ (.slice none 0 0)).setCell ⟨w.heap.size + 1 + 1, 1, none⟩ (.slice none 0 0)) = za at hSa hX hBf hszz ⊢
   refine rk 3 rfl (fun K hK => ?_)
   have hba : Below za.heap.size za (za.alloc (.cells #[.slice none 0 0, .slice none 0 0, (.iface 240 (.pointer (some (E 1))))] 72)) := bl
   have hSb : (za.alloc (.cells #[.slice none 0 0, .slice none 0 0, (.iface 240 (.pointer (some (E 1))))] 72)).cell? ⟨0, 0, none⟩ = some (.iface 240 (.pointer (some (E 1)))) := (hba.cell (p := ⟨0, 0, none⟩) (by show 0 < _; omega)).trans hSa
   have hNa := heap_alloc_new za (.cells #[.slice none 0 0, .slice none 0 0, (.iface 240 (.pointer (some (E 1))))] 72)
   go_simp
   refine hK.out _ _ hSb (fun _ => ?_)
   clear hK K
   (try simp only [Act.put, u1, u2, u3])
   have HX := Lib.hid ((hba.block _ (by omega)).trans hX)
   have HBf := Lib.hid (hBf.trans (hba.mono (by omega)))
   have HRb := Lib.hid hNa
   generalize za.alloc (.cells #[.slice none 0 0, .slice none 0 0, (.iface 240 (.pointer (some (E 1))))] 72) = wf at hSb HX HBf HRb ⊢
   clear hNa hba hX hBf
   generalize za.heap.size = rb at HRb hszz ⊢
   refine tk 4 ⟨some 27, .makeInterface 68 (.tmp 26), 65, "l06_commands.go:229", #[⟨3, .data⟩, { on := 5, ground := Ground.gcOnly Departure.lateStores }], none⟩ ?_
   (try simp only [Act.put, u1, u2, u3])
   refine tk 6 ⟨some 7, .assign (.tmp 27), 65, "l06_commands.go:229", #[⟨4, .data⟩, ⟨5, .chain⟩, ⟨0, .phase⟩, ⟨1, .phase⟩, ⟨2, .phase⟩, ⟨3, .phase⟩, ⟨4, .phase⟩, ⟨5, .phase⟩], none⟩ ?_
   (try simp only [Act.put, u1, u2, u3])
   refine wpAnyH_done (by kernel_rfl) ?_ _
   go_wp2
   obtain ⟨q0, q1⟩ := pair_cells HX.out
   exact bodyPost_ret (v := .tuple #[.agg #[.slice none 0 0, .slice none 0 0], .iface 68 (.pointer (some ⟨rb, 0, none⟩))]) (by simp [results, Tryz.results40, go_sem, q0, q1]) rfl (.inr ⟨by decide, by decide, rb, none, 0, none, 0, wf.heap.size, rfl, by rw [errV_1]; exact HRb.out, by omega, own_nilP _ _ _ _, own_none _ _ _ _, HBf.out.size, Nat.le_refl _, caps_nil, caps_nil, HBf.out⟩)
 ·rw [hq]
  go_wp2_with fail
  refine (deviceOkW dev w1).mono ?_
  rintro e w1' ⟨rfl, rfl⟩
  rw [hq2]
  have g1 := gErr1 HE1.out
  go_wp2_with fail
  refine wp_region_held_drew (S := fun w' => w'.cell? ⟨0, 0, none⟩ = some (.iface 240 (.pointer (some (E 1))))) (by kernel_rfl) g1 (fun hHeld => ?_)
  have HBz : Hid (Below w1.heap.size w1 w1.drew) := ⟨rfl, rfl, rfl, Nat.le_refl _, fun _ _ => rfl⟩
  generalize w1.drew = z0 at HBz hHeld ⊢
  have HTz := Lib.hid (HT1.out.next HBz.out)
  have hsz := HBz.out.size
  have hlz := HTz.out.lt
  have hbz := HTz.out.bel.size
  refine tk 0 ⟨some 23, .build 32 #[], 32, "l06_commands.go:229", #[], none⟩ ?_
  (try simp only [Act.put, u1, u2, u3])
  refine tk 1 ⟨some 24, .load 65 (Operand.global 0), 65, "l06_commands.go:229", #[], none⟩ ?_
  (try simp only [Act.put, u1, u2, u3])
  refine tk 2 ⟨some 25, .build 72 #[(1, .tmp 24)], 72, "l06_commands.go:229", #[⟨1, .data⟩], none⟩ ?_
  (try simp only [Act.put, u1, u2, u3])
  refine wpAnyH_ready (rs := [3, 5]) (by kernel_rfl) (by simp) ?_
  refine AllReadyH.cons rfl (fun K hK => ?_) (AllReadyH.cons rfl (fun K hK => ?_) AllReadyH.nil)
  ·
   have hba : Below z0.heap.size z0 (z0.alloc (.cells #[.slice none 0 0, .slice none 0 0, (.iface 240 (.pointer (some (E 1))))] 72)) := bl
   have hSa : (z0.alloc (.cells #[.slice none 0 0, .slice none 0 0, (.iface 240 (.pointer (some (E 1))))] 72)).cell? ⟨0, 0, none⟩ = some (.iface 240 (.pointer (some (E 1)))) := (hba.cell (p := ⟨0, 0, none⟩) (by show 0 < _; omega)).trans hHeld
   have hNa := heap_alloc_new z0 (.cells #[.slice none 0 0, .slice none 0 0, (.iface 240 (.pointer (some (E 1))))] 72)
   go_simp
   refine hK.out _ _ hSa (fun _ => ?_)
   clear hK K
   (try simp only [Act.put, u1, u2, u3])
   have HTa := Lib.hid (HTz.out.next hba)
   generalize (z0.alloc (.cells #[.slice none 0 0, .slice none 0 0, (.iface 240 (.pointer (some (E 1))))] 72)) = za at hba hSa hNa HTa ⊢
   have hla : z0.heap.size < za.heap.size := (Array.getElem?_eq_some_iff.1 hNa).1
   generalize z0.heap.size = rb at hla hba hNa hlz hsz hbz ⊢
   obtain ⟨r0, r1⟩ := pair_cells HTa.out.res
   obtain ⟨rf0, rf1⟩ := pair_frozen HTa.out.res
   refine tk 4 ⟨some 27, .makeInterface 68 (.tmp 26), 65, "l06_commands.go:229", #[⟨3, .data⟩, { on := 5, ground := Ground.gcOnly Departure.lateStores }], none⟩ ?_
   (try simp only [Act.put, u1, u2, u3])
   refine rk 5 rfl (fun K hK => ?_)
   go_simp
   refine hK.out _ _ ((World.cell?_of_block (a := ⟨0, 0, none⟩) (pair_other (w := za) (b := w.heap.size + 1 + 1) (k := 0) (.slice none 0 0) (.slice none 0 0) (by omega))).trans hSa) (fun hHeld2 => ?_)
   clear hK K
   (try simp only [Act.put, u1, u2, u3])
   refine tk 6 ⟨some 7, .assign (.tmp 27), 65, "l06_commands.go:229", #[⟨4, .data⟩, ⟨5, .chain⟩, ⟨0, .phase⟩, ⟨1, .phase⟩, ⟨2, .phase⟩, ⟨3, .phase⟩, ⟨4, .phase⟩, ⟨5, .phase⟩], none⟩ ?_
   (try simp only [Act.put, u1, u2, u3])
   refine wpAnyH_done (by kernel_rfl) ?_ _
   have HX := Lib.hid (HTa.out.set2 (.slice none 0 0) (.slice none 0 0)).1
   have HBf := Lib.hid (HTa.out.bel.trans ((HTa.out.set2 (.slice none 0 0) (.slice none 0 0)).2.mono (by omega)))
   have HRb : Hid (((za.setCell ⟨w.heap.size + 1 + 1, 0, none⟩ (.slice none 0 0)).setCell ⟨w.heap.size + 1 + 1, 1, none⟩ (.slice none 0 0)).heap[rb]? = some (.cells #[.slice none 0 0, .slice none 0 0, (.iface 240 (.pointer (some (E 1))))] 72 (0, 0))) := (pair_other _ _ (by omega)).trans hNa
   clear r0 r1 rf0 rf1 hNa hba
   generalize ((za.setCell ⟨w.heap.size + 1 + 1, 0, none⟩ (.slice none 0 0)).setCell ⟨w.heap.size + 1 + 1, 1, none⟩ (.slice none 0 0)) = wf at HX HBf HRb ⊢
   go_wp2
   obtain ⟨q0, q1⟩ := pair_cells HX.out
   exact bodyPost_ret (v := .tuple #[.agg #[.slice none 0 0, .slice none 0 0], .iface 68 (.pointer (some ⟨rb, 0, none⟩))]) (by simp [results, Tryz.results40, go_sem, q0, q1]) rfl (.inr ⟨by decide, by decide, rb, none, 0, none, 0, wf.heap.size, rfl, by rw [errV_1]; exact HRb.out, by omega, own_nilP _ _ _ _, own_none _ _ _ _, HBf.out.size, Nat.le_refl _, caps_nil, caps_nil, HBf.out⟩)
  ·
   obtain ⟨r0, r1⟩ := pair_cells HTz.out.res
   obtain ⟨rf0, rf1⟩ := pair_frozen HTz.out.res
   have hSa : ((z0.setCell ⟨w.heap.size + 1 + 1, 0, none⟩ (.slice none 0 0)).setCell ⟨w.heap.size + 1 + 1, 1, none⟩ (.slice none 0 0)).cell? ⟨0, 0, none⟩ = some (.iface 240 (.pointer (some (E 1)))) := (World.cell?_of_block (a := ⟨0, 0, none⟩) (pair_other (w := z0) (b := w.heap.size + 1 + 1) (k := 0) (.slice none 0 0) (.slice none 0 0) (by omega))).trans hHeld
   have hX := (HTz.out.set2 (.slice none 0 0) (.slice none 0 0)).1
   have hBf := HTz.out.bel.trans ((HTz.out.set2 (.slice none 0 0) (.slice none 0 0)).2.mono (by omega))
   have hszz : ((z0.setCell ⟨w.heap.size + 1 + 1, 0, none⟩ (.slice none 0 0)).setCell ⟨w.heap.size + 1 + 1, 1, none⟩ (.slice none 0 0)).heap.size = z0.heap.size := pair_size _ _ _ _
   go_simp
   refine hK.out _ _ hSa (fun _ => ?_)
   clear hK K r0 r1 rf0 rf1
   (try simp only [Act.put, u1, u2, u3])
   generalize ((z0.setCell ⟨w.heap.size + 1 + 1, 0, none⟩ (.slice none 0 0)).setCell ⟨w.heap.size + 1 + 1, 1, none⟩ (.slice none 0 0)) = za at hSa hX hBf hszz ⊢
   refine rk 3 rfl (fun K hK => ?_)
   have hba : Below za.heap.size za (za.alloc (.cells #[.slice none 0 0, .slice none 0 0, (.iface 240 (.pointer (some (E 1))))] 72)) := bl
   have hSb : (za.alloc (.cells #[.slice none 0 0, .slice none 0 0, (.iface 240 (.pointer (some (E 1))))] 72)).cell? ⟨0, 0, none⟩ = some (.iface 240 (.pointer (some (E 1)))) := (hba.cell (p := ⟨0, 0, none⟩) (by show 0 < _; omega)).trans hSa
   have hNa := heap_alloc_new za (.cells #[.slice none 0 0, .slice none 0 0, (.iface 240 (.pointer (some (E 1))))] 72)
   go_simp
   refine hK.out _ _ hSb (fun _ => ?_)
   clear hK K
   (try simp only [Act.put, u1, u2, u3])
   have HX := Lib.hid ((hba.block _ (by omega)).trans hX)
   have HBf := Lib.hid (hBf.trans (hba.mono (by omega)))
   have HRb := Lib.hid hNa
   generalize za.alloc (.cells #[.slice none 0 0, .slice none 0 0, (.iface 240 (.pointer (some (E 1))))] 72) = wf at hSb HX HBf HRb ⊢
   clear hNa hba hX hBf
   generalize za.heap.size = rb at HRb hszz ⊢
   refine tk 4 ⟨some 27, .makeInterface 68 (.tmp 26), 65, "l06_commands.go:229", #[⟨3, .data⟩, { on := 5, ground := Ground.gcOnly Departure.lateStores }], none⟩ ?_
   (try simp only [Act.put, u1, u2, u3])
   refine tk 6 ⟨some 7, .assign (.tmp 27), 65, "l06_commands.go:229", #[⟨4, .data⟩, ⟨5, .chain⟩, ⟨0, .phase⟩, ⟨1, .phase⟩, ⟨2, .phase⟩, ⟨3, .phase⟩, ⟨4, .phase⟩, ⟨5, .phase⟩], none⟩ ?_
   (try simp only [Act.put, u1, u2, u3])
   refine wpAnyH_done (by kernel_rfl) ?_ _
   go_wp2
   obtain ⟨q0, q1⟩ := pair_cells HX.out
   exact bodyPost_ret (v := .tuple #[.agg #[.slice none 0 0, .slice none 0 0], .iface 68 (.pointer (some ⟨rb, 0, none⟩))]) (by simp [results, Tryz.results40, go_sem, q0, q1]) rfl (.inr ⟨by decide, by decide, rb, none, 0, none, 0, wf.heap.size, rfl, by rw [errV_1]; exact HRb.out, by omega, own_nilP _ _ _ _, own_none _ _ _ _, HBf.out.size, Nat.le_refl _, caps_nil, caps_nil, HBf.out⟩)
 ·rw [hq]
  go_wp2_with fail
  refine (deviceOkW dev w1).mono ?_
  rintro e w1' ⟨rfl, rfl⟩
  rw [hq2]
  go_wp2_with fail
  refine (implCmd kind item qty dv sq w1).mono ?_
  rintro e w2 ⟨rfl, hb2⟩
  rw [hq3]
  have HT2 := Lib.hid (HT1.out.next hb2)
  have HE2 := Lib.hid (HE1.out.below hb2 (by omega))
  have hs2 := hb2.size
  clear hb2 d0 d1 d2 d3 d4 HT1 HE1
  have g1 := gErr1 HE2.out
  go_wp2_with fail
  refine wp_region_held_drew (S := fun w' => w'.cell? ⟨0, 0, none⟩ = some (.iface 240 (.pointer (some (E 1))))) (by kernel_rfl) g1 (fun hHeld => ?_)
  have HBz : Hid (Below w2.heap.size w2 w2.drew) := ⟨rfl, rfl, rfl, Nat.le_refl _, fun _ _ => rfl⟩
  generalize w2.drew = z0 at HBz hHeld ⊢
  have HTz := Lib.hid (HT2.out.next HBz.out)
  have hsz := HBz.out.size
  have hlz := HTz.out.lt
  have hbz := HTz.out.bel.size
  refine tk 0 ⟨some 23, .build 32 #[], 32, "l06_commands.go:229", #[], none⟩ ?_
  (try simp only [Act.put, u1, u2, u3])
  refine tk 1 ⟨some 24, .load 65 (Operand.global 0), 65, "l06_commands.go:229", #[], none⟩ ?_
  (try simp only [Act.put, u1, u2, u3])
  refine tk 2 ⟨some 25, .build 72 #[(1, .tmp 24)], 72, "l06_commands.go:229", #[⟨1, .data⟩], none⟩ ?_
  (try simp only [Act.put, u1, u2, u3])
  refine wpAnyH_ready (rs := [3, 5]) (by kernel_rfl) (by simp) ?_
  refine AllReadyH.cons rfl (fun K hK => ?_) (AllReadyH.cons rfl (fun K hK => ?_) AllReadyH.nil)
  ·
   have hba : Below z0.heap.size z0 (z0.alloc (.cells #[.slice none 0 0, .slice none 0 0, (.iface 240 (.pointer (some (E 1))))] 72)) := bl
   have hSa : (z0.alloc (.cells #[.slice none 0 0, .slice none 0 0, (.iface 240 (.pointer (some (E 1))))] 72)).cell? ⟨0, 0, none⟩ = some (.iface 240 (.pointer (some (E 1)))) := (hba.cell (p := ⟨0, 0, none⟩) (by show 0 < _; omega)).trans hHeld
   have hNa := heap_alloc_new z0 (.cells #[.slice none 0 0, .slice none 0 0, (.iface 240 (.pointer (some (E 1))))] 72)
   go_simp
   refine hK.out _ _ hSa (fun _ => ?_)
   clear hK K
   (try simp only [Act.put, u1, u2, u3])
   have HTa := Lib.hid (HTz.out.next hba)
   generalize (z0.alloc (.cells #[.slice none 0 0, .slice none 0 0, (.iface 240 (.pointer (some (E 1))))] 72)) = za at hba hSa hNa HTa ⊢
   have hla : z0.heap.size < za.heap.size := (Array.getElem?_eq_some_iff.1 hNa).1
   generalize z0.heap.size = rb at hla hba hNa hlz hsz hbz ⊢
   obtain ⟨r0, r1⟩ := pair_cells HTa.out.res
   obtain ⟨rf0, rf1⟩ := pair_frozen HTa.out.res
   refine tk 4 ⟨some 27, .makeInterface 68 (.tmp 26), 65, "l06_commands.go:229", #[⟨3, .data⟩, { on := 5, ground := Ground.gcOnly Departure.lateStores }], none⟩ ?_
   (try simp only [Act.put, u1, u2, u3])
   refine rk 5 rfl (fun K hK => ?_)
   go_simp
   refine hK.out _ _ ((World.cell?_of_block (a := ⟨0, 0, none⟩) (pair_other (w := za) (b := w.heap.size + 1 + 1) (k := 0) (.slice none 0 0) (.slice none 0 0) (by omega))).trans hSa) (fun hHeld2 => ?_)
   clear hK K
   (try simp only [Act.put, u1, u2, u3])
   refine tk 6 ⟨some 7, .assign (.tmp 27), 65, "l06_commands.go:229", #[⟨4, .data⟩, ⟨5, .chain⟩, ⟨0, .phase⟩, ⟨1, .phase⟩, ⟨2, .phase⟩, ⟨3, .phase⟩, ⟨4, .phase⟩, ⟨5, .phase⟩], none⟩ ?_
   (try simp only [Act.put, u1, u2, u3])
   refine wpAnyH_done (by kernel_rfl) ?_ _
   have HX := Lib.hid (HTa.out.set2 (.slice none 0 0) (.slice none 0 0)).1
   have HBf := Lib.hid (HTa.out.bel.trans ((HTa.out.set2 (.slice none 0 0) (.slice none 0 0)).2.mono (by omega)))
   have HRb : Hid (((za.setCell ⟨w.heap.size + 1 + 1, 0, none⟩ (.slice none 0 0)).setCell ⟨w.heap.size + 1 + 1, 1, none⟩ (.slice none 0 0)).heap[rb]? = some (.cells #[.slice none 0 0, .slice none 0 0, (.iface 240 (.pointer (some (E 1))))] 72 (0, 0))) := (pair_other _ _ (by omega)).trans hNa
   clear r0 r1 rf0 rf1 hNa hba
   generalize ((za.setCell ⟨w.heap.size + 1 + 1, 0, none⟩ (.slice none 0 0)).setCell ⟨w.heap.size + 1 + 1, 1, none⟩ (.slice none 0 0)) = wf at HX HBf HRb ⊢
   go_wp2
   obtain ⟨q0, q1⟩ := pair_cells HX.out
   exact bodyPost_ret (v := .tuple #[.agg #[.slice none 0 0, .slice none 0 0], .iface 68 (.pointer (some ⟨rb, 0, none⟩))]) (by simp [results, Tryz.results40, go_sem, q0, q1]) rfl (.inr ⟨by decide, by decide, rb, none, 0, none, 0, wf.heap.size, rfl, by rw [errV_1]; exact HRb.out, by omega, own_nilP _ _ _ _, own_none _ _ _ _, HBf.out.size, Nat.le_refl _, caps_nil, caps_nil, HBf.out⟩)
  ·
   obtain ⟨r0, r1⟩ := pair_cells HTz.out.res
   obtain ⟨rf0, rf1⟩ := pair_frozen HTz.out.res
   have hSa : ((z0.setCell ⟨w.heap.size + 1 + 1, 0, none⟩ (.slice none 0 0)).setCell ⟨w.heap.size + 1 + 1, 1, none⟩ (.slice none 0 0)).cell? ⟨0, 0, none⟩ = some (.iface 240 (.pointer (some (E 1)))) := (World.cell?_of_block (a := ⟨0, 0, none⟩) (pair_other (w := z0) (b := w.heap.size + 1 + 1) (k := 0) (.slice none 0 0) (.slice none 0 0) (by omega))).trans hHeld
   have hX := (HTz.out.set2 (.slice none 0 0) (.slice none 0 0)).1
   have hBf := HTz.out.bel.trans ((HTz.out.set2 (.slice none 0 0) (.slice none 0 0)).2.mono (by omega))
   have hszz : ((z0.setCell ⟨w.heap.size + 1 + 1, 0, none⟩ (.slice none 0 0)).setCell ⟨w.heap.size + 1 + 1, 1, none⟩ (.slice none 0 0)).heap.size = z0.heap.size := pair_size _ _ _ _
   go_simp
   refine hK.out _ _ hSa (fun _ => ?_)
   clear hK K r0 r1 rf0 rf1
   (try simp only [Act.put, u1, u2, u3])
   generalize ((z0.setCell ⟨w.heap.size + 1 + 1, 0, none⟩ (.slice none 0 0)).setCell ⟨w.heap.size + 1 + 1, 1, none⟩ (.slice none 0 0)) = za at hSa hX hBf hszz ⊢
   refine rk 3 rfl (fun K hK => ?_)
   have hba : Below za.heap.size za (za.alloc (.cells #[.slice none 0 0, .slice none 0 0, (.iface 240 (.pointer (some (E 1))))] 72)) := bl
   have hSb : (za.alloc (.cells #[.slice none 0 0, .slice none 0 0, (.iface 240 (.pointer (some (E 1))))] 72)).cell? ⟨0, 0, none⟩ = some (.iface 240 (.pointer (some (E 1)))) := (hba.cell (p := ⟨0, 0, none⟩) (by show 0 < _; omega)).trans hSa
   have hNa := heap_alloc_new za (.cells #[.slice none 0 0, .slice none 0 0, (.iface 240 (.pointer (some (E 1))))] 72)
   go_simp
   refine hK.out _ _ hSb (fun _ => ?_)
   clear hK K
   (try simp only [Act.put, u1, u2, u3])
   have HX := Lib.hid ((hba.block _ (by omega)).trans hX)
   have HBf := Lib.hid (hBf.trans (hba.mono (by omega)))
   have HRb := Lib.hid hNa
   generalize za.alloc (.cells #[.slice none 0 0, .slice none 0 0, (.iface 240 (.pointer (some (E 1))))] 72) = wf at hSb HX HBf HRb ⊢
   clear hNa hba hX hBf
   generalize za.heap.size = rb at HRb hszz ⊢
   refine tk 4 ⟨some 27, .makeInterface 68 (.tmp 26), 65, "l06_commands.go:229", #[⟨3, .data⟩, { on := 5, ground := Ground.gcOnly Departure.lateStores }], none⟩ ?_
   (try simp only [Act.put, u1, u2, u3])
   refine tk 6 ⟨some 7, .assign (.tmp 27), 65, "l06_commands.go:229", #[⟨4, .data⟩, ⟨5, .chain⟩, ⟨0, .phase⟩, ⟨1, .phase⟩, ⟨2, .phase⟩, ⟨3, .phase⟩, ⟨4, .phase⟩, ⟨5, .phase⟩], none⟩ ?_
   (try simp only [Act.put, u1, u2, u3])
   refine wpAnyH_done (by kernel_rfl) ?_ _
   go_wp2
   obtain ⟨q0, q1⟩ := pair_cells HX.out
   exact bodyPost_ret (v := .tuple #[.agg #[.slice none 0 0, .slice none 0 0], .iface 68 (.pointer (some ⟨rb, 0, none⟩))]) (by simp [results, Tryz.results40, go_sem, q0, q1]) rfl (.inr ⟨by decide, by decide, rb, none, 0, none, 0, wf.heap.size, rfl, by rw [errV_1]; exact HRb.out, by omega, own_nilP _ _ _ _, own_none _ _ _ _, HBf.out.size, Nat.le_refl _, caps_nil, caps_nil, HBf.out⟩)
set_option linter.unusedVariables false
set_option linter.unusedSimpArgs false

theorem cmd_nine {kind : Int} {item : ByteArray} {qty dv sq : Int} (h : cmdB kind item qty dv sq = true) (hk : kind = 9) : 0 ≤ dv ∧ dv ≤ 3 := by
 subst hk
 have e : cmdB 9 item qty dv sq = (decide (item = ⟨#[]⟩ ∧ qty = 0) && (inB dv 0 3 && inB sq 1 40)) := rfl
 rw [e, Bool.and_eq_true, Bool.and_eq_true] at h
 have h2 := h.2.1
 unfold inB at h2
 exact of_decide_eq_true h2
theorem oneOf_code (lev : Int) (saved : Bool) (kind : Int) (item : ByteArray) (qty : Int) : (oneOf lev saved kind item qty).2 = 0 ∨ (oneOf lev saved kind item qty).2 = 2 ∨ (oneOf lev saved kind item qty).2 = 3 := by
 unfold oneOf
 repeat' split
 all_goals simp
theorem oneN_code (xs : List Int) (l : List OpV) (d : Nat) (kind : Int) (item : ByteArray) (qty : Int) : 0 ≤ (oneN xs l d kind item qty).1 ∧ (oneN xs l d kind item qty).1 ≤ 4 := by
 unfold oneN
 dsimp only
 have h := oneOf_code (levTo item l l.length) (savedL l item) kind item qty
 split
 ·split <;> simp
 ·show 0 ≤ (oneOf (levTo item l l.length) (savedL l item) kind item qty).2 ∧ (oneOf (levTo item l l.length) (savedL l item) kind item qty).2 ≤ 4
  omega
theorem tglN_code (xs : List Int) (l : List OpV) (dev s : Int) : 0 ≤ (tglN xs l dev s).1 ∧ (tglN xs l dev s).1 ≤ 4 := by
 unfold tglN
 split
 ·split <;> simp
 ·simp
theorem clrN_code (xs : List Int) (l : List OpV) (d : Nat) : 0 ≤ (clrN xs l d).1 ∧ (clrN xs l d).1 ≤ 4 := by
 unfold clrN
 split
 ·simp
 ·split <;> simp
theorem l6N_code (xs : List Int) (l : List OpV) (d : Nat) (kind : Int) (item : ByteArray) (qty dv sq : Int) : 0 ≤ (l6N xs l d kind item qty dv sq).1 ∧ (l6N xs l d kind item qty dv sq).1 ≤ 4 := by
 unfold l6N
 split
 ·exact clrN_code _ _ _
 ·split
  ·exact tglN_code _ _ _ _
  ·split
   ·exact tglN_code _ _ _ _
   ·split
    ·exact tglN_code _ _ _ _
    ·exact oneN_code _ _ _ _ _ _
set_option maxHeartbeats 40000000 in
theorem performedGo (w : World) (B : Nat) (E : Int → Addr) (hE : Errs w B E) (g off : Nat) (ao : Option Addr) (cv no co d : Nat) (xs : List Int) (l : List OpV) (kind qty dv sq : Int) (item : ByteArray) (hx : Ints w B (some ⟨g, off, none⟩) 4 xs) (h : Ops w B ao no l) (hB : B ≤ w.heap.size) (hcv : 4 ≤ cv) (hco : Caps ao no co) (hc : cartB xs l = true) (hd : d < 4) (hi : item.size ≤ 1048576) (hcmd : cmdB kind item qty dv sq = true) :
  Calls Tryz.prog 40 #[.agg #[.slice (some ⟨g, off, none⟩) 4 cv, .slice ao no co], .int .i64 (d : Int), .agg #[.int .i64 kind, .string item, .int .i64 qty, .int .i64 dv, .int .i64 sq]] w (PfP E (if (l6N xs l d kind item qty dv sq).1 = 0 then l6N xs l d kind item qty dv sq else ((l6N xs l d kind item qty dv sq).1, xs, l)) w) := by
 have hno : no ≤ 160 := by rw [← h.1]; exact cart_length hc
 have HM : Hid (∀ i, i < no → (l.getD i OpV.zero).item.size ≤ 1048576) := fun i hi' => by
  have h2 := (op_bounds (cart_op hc (i := i) (by rw [h.1]; exact hi'))).2.2.2.2.1
  have e : atOp l i = l.getD i OpV.zero := rfl
  rw [← e]
  omega
 obtain ⟨T, hT0⟩ : ∃ T, T = l6N xs l d kind item qty dv sq := ⟨_, rfl⟩
 have hcode := l6N_code xs l d kind item qty dv sq
 rw [← hT0] at hcode ⊢
 obtain ⟨R, hR0⟩ : ∃ R : Int × List Int × List OpV, R = (if T.1 = 0 then T else (T.1, xs, l)) := ⟨_, rfl⟩
 rw [← hR0]
 have HTT := Lib.hid hT0
 have HRR := Lib.hid hR0
 have HCd := Lib.hid hcode
 have hT := Trio.mk0 w #[.slice (some ⟨g, off, none⟩) 4 cv, .slice ao no co] #[.int .i64 kind, .string item, .int .i64 qty, .int .i64 dv, .int .i64 sq] #[.slice none 0 0, .slice none 0 0] 32 36 32
 have HV := Lib.hid (hx.below hT.bel hB)
 have HO := Lib.hid (h.below hT.bel hB)
 have HE := Lib.hid (hE.below hT.bel hB)
 have HT := Lib.hid hT
 have HCO := Lib.hid hco
 have HC := Lib.hid hc
 have HCM := Lib.hid hcmd
 have HK9 := Lib.hid (cmd_nine hcmd)
 have hdv := in_dev hd
 have HDV := Lib.hid hdv
 clear hx h hT hco hE hc hT0 hR0 hcode hcmd hdv
 go_enter Tryz.func40, Tryz.ntmps40
 go_upto_region 1 with fail
 generalize ((w.alloc (.cells #[.slice (some ⟨g, off, none⟩) 4 cv, .slice ao no co] 32)).alloc (.cells #[.int .i64 kind, .string item, .int .i64 qty, .int .i64 dv, .int .i64 sq] 36)).alloc (.cells #[.slice none 0 0, .slice none 0 0] 32) = w0 at HV HO HE HT ⊢
 have hs0 := HT.out.lt
 obtain ⟨c0, c1⟩ := pair_cells HT.out.fst
 go_wp2_with fail
 refine (implCartOk w0 B (some ⟨g, off, none⟩) ao 4 cv no co xs l HV.out HO.out (by omega) (by omega) HCO.out.1 ⟨by omega, HCO.out.2.1⟩).mono ?_
 rintro e w1 ⟨rfl, hb1⟩
 rw [HC.out]
 have HT1 := Lib.hid (HT.out.next hb1)
 have HV1 := Lib.hid (HV.out.below hb1 (by omega))
 have HO1 := Lib.hid (HO.out.below hb1 (by omega))
 have HE1 := Lib.hid (HE.out.below hb1 (by omega))
 have hs1 := hb1.size
 clear hb1 c0 c1 HT HE HV HO
 obtain ⟨d0, d1, d2, d3, d4⟩ := cmd_cells5 HT1.out.snd
 go_wp2_with fail
 refine (deviceOkW (d : Int) w1).mono ?_
 rintro e w1' ⟨rfl, rfl⟩
 rw [HDV.out]
 go_wp2_with fail
 refine (implCmd kind item qty dv sq w1).mono ?_
 rintro e w2 ⟨rfl, hb2⟩
 rw [HCM.out]
 have HT2 := Lib.hid (HT1.out.next hb2)
 have HV2 := Lib.hid (HV1.out.below hb2 (by omega))
 have HO2 := Lib.hid (HO1.out.below hb2 (by omega))
 have HE2 := Lib.hid (HE1.out.below hb2 (by omega))
 have hs2 := hb2.size
 clear hb2 d0 d1 d2 d3 d4 HT1 HV1 HO1 HE1
 obtain ⟨c0, c1⟩ := pair_cells HT2.out.fst
 obtain ⟨d0, d1, d2, d3, d4⟩ := cmd_cells5 HT2.out.snd
 go_wp2_with fail
 refine (changedW w2 B E HE2.out g off ao cv no co d xs l kind qty dv sq item HV2.out HO2.out (by omega) hcv HCO.out  HC.out hd hi HK9.out).mono ?_
 intro e w3 hch
 rw [← HTT.out] at hch
 have hb3 := hch.bel
 have HT3 := Lib.hid (HT2.out.next hb3)
 have HV3 := Lib.hid (HV2.out.below hb3 (by omega))
 have HO3 := Lib.hid (HO2.out.below hb3 (by omega))
 have hs3 := hb3.size
 clear hb3 c0 c1 d0 d1 d2 d3 d4 HV2 HO2 HE2 HT2
 by_cases hz : T.1 = 0
 ·obtain ⟨a, n, c, a', n', c', er, rfl⟩ := hch.form
  have her : er = .nilIface := by
   rcases hch with ⟨h1, _⟩ | ⟨_, va, vc, oa, oc, mid, e1, _⟩
   ·exact absurd hz h1
   ·injection e1 with e1
    injection e1 with e1
    have e2 := congrArg (fun x : Array Value => x[1]?) e1
    simpa using e2
  subst her
  have HCh := Lib.hid hch
  have HRT : Hid (R = T) := by show _ = _; rw [HRR.out, if_pos hz]
  clear hch
  go_upto_region 4 with fail
  have hbb := (Below.refl w3.heap.size w3).alloc (Nat.le_refl _) (.cells #[.slice a n c, .slice a' n' c'] 32)
  have HT4 := Lib.hid (HT3.out.next hbb)
  have HN4 := Lib.hid (heap_alloc_new w3 (.cells #[.slice a n c, .slice a' n' c'] 32))
  have HB4 := Lib.hid hbb
  clear hbb HT3 HV3 HO3
  generalize w3.alloc (.cells #[.slice a n c, .slice a' n' c'] 32) = w4 at HT4 HN4 HB4 ⊢
  have hx4 : w3.heap.size < w4.heap.size := (Array.getElem?_eq_some_iff.1 HN4.out).1
  obtain ⟨r0, r1⟩ := pair_cells HT4.out.res
  obtain ⟨rf0, rf1⟩ := pair_frozen HT4.out.res
  have HX := Lib.hid (HT4.out.set2 (.slice a n c) (.slice a' n' c')).1
  have HBf := Lib.hid (HT4.out.bel.trans ((HT4.out.set2 (.slice a n c) (.slice a' n' c')).2.mono (by omega)))
  have HCf : Hid (ChP E T w (.returned (.tuple #[.agg #[.slice a n c, .slice a' n' c'], .nilIface])) ((w4.setCell ⟨w.heap.size + 1 + 1, 0, none⟩ (.slice a n c)).setCell ⟨w.heap.size + 1 + 1, 1, none⟩ (.slice a' n' c'))) := by
   rcases HCh.out with ⟨h1, _⟩ | ⟨h0, va, vc, oa, oc, mid, e1, h2, h3, h4, h5, h6, h7, _⟩
   ·exact absurd hz h1
   ·have hsf : ((w4.setCell ⟨w.heap.size + 1 + 1, 0, none⟩ (.slice a n c)).setCell ⟨w.heap.size + 1 + 1, 1, none⟩ (.slice a' n' c')).heap.size = w4.heap.size := pair_size _ _ _ _
    exact .inr ⟨h0, va, vc, oa, oc, mid, e1, ((h2.below HB4.out h5).kept (fun j q1 q2 => pair_other _ _ (by omega))).more (by omega) (Nat.le_refl _), by rw [hsf]; exact (((h3.below HB4.out (Nat.le_refl _)).kept (fun j q1 q2 => pair_other _ _ (by omega))).more (Nat.le_refl _) (by omega)), by omega, by omega, h6, h7, HBf.out⟩
  generalize w3.heap.size = nb at hs3 hx4 HN4 HB4 ⊢
  obtain ⟨n0, n1⟩ := pair_cells HN4.out
  go_wp2
  change bodyPost _ _ _ _ _ ((w4.setCell ⟨w.heap.size + 1 + 1, 0, none⟩ (.slice a n c)).setCell ⟨w.heap.size + 1 + 1, 1, none⟩ (.slice a' n' c'))
  clear n0 n1 r0 r1 rf0 rf1 HCh
  generalize ((w4.setCell ⟨w.heap.size + 1 + 1, 0, none⟩ (.slice a n c)).setCell ⟨w.heap.size + 1 + 1, 1, none⟩ (.slice a' n' c')) = wf at HX HBf HCf ⊢
  obtain ⟨q0, q1⟩ := pair_cells HX.out
  exact bodyPost_ret (v := .tuple #[.agg #[.slice a n c, .slice a' n' c'], .nilIface]) (by simp [results, Tryz.results40, go_sem, q0, q1]) rfl (PfP.eqr (.inl ⟨hz, HCf.out⟩) HRT.out.symm)
 ·rcases hch with ⟨h1, rfl, _⟩ | ⟨h0, _⟩
  rotate_left
  ·exact absurd h0 hz
  obtain ⟨code, hcode⟩ : ∃ code, code = T.1 := ⟨_, rfl⟩
  have HRT : Hid (R = (code, xs, l)) := by show _ = _; rw [HRR.out, if_neg hz, hcode]
  have hc1 : 1 ≤ code ∧ code ≤ 4 := by have := HCd.out; omega
  rw [← hcode] at h1 ⊢
  have her2 : errV E code = (.iface 240 (.pointer (some (E code)))) := by unfold errV; rw [if_neg h1]
  rw [her2]
  have HER := Lib.hid her2
  clear hcode her2 hz h1
  obtain ⟨hc3, hc4⟩ := hc1
  go_upto_region 4 with fail
  have hbb := (Below.refl w3.heap.size w3).alloc (Nat.le_refl _) (.cells #[.slice none 0 0, .slice none 0 0] 32)
  have HT4 := Lib.hid (HT3.out.next hbb)
  have HV4 := Lib.hid (HV3.out.below hbb (by omega))
  have HO4 := Lib.hid (HO3.out.below hbb (by omega))
  have hs4 := hbb.size
  clear hbb HT3 HV3 HO3
  generalize w3.alloc (.cells #[.slice none 0 0, .slice none 0 0] 32) = w4 at HT4 HV4 HO4 hs4 ⊢
  generalize w3.heap.size = nb at hs3 hs4 ⊢
  have hl4 := HT4.out.lt
  obtain ⟨c0, c1⟩ := pair_cells HT4.out.fst
  go_wp2_with fail
  refine (copiedCartR w4 B g off ao 4 cv no co xs l HV4.out HO4.out (by omega) (by omega) (by omega) (by omega) HCO.out.2.2  HM.out).mono ?_
  rintro e w5 ⟨va, vc, oa, oc, mid, rfl, hown, hrow, hm1, hm2, hb5, hcap⟩
  have HT5 := Lib.hid (HT4.out.next hb5)
  have hs5 := hb5.size
  have HOw := Lib.hid hown
  have HRw := Lib.hid hrow
  have HCa := Lib.hid hcap
  obtain ⟨XL, hxl⟩ : ∃ XL, XL = xs.length := ⟨_, rfl⟩
  obtain ⟨LL, hll⟩ : ∃ LL, LL = l.length := ⟨_, rfl⟩
  rw [← hxl] at HOw HCa ⊢
  rw [← hll] at HRw ⊢
  have HXL := Lib.hid hxl
  have HLL := Lib.hid hll
  clear hb5 hown hrow hcap c0 c1 HT4 HV4 HO4 hxl hll
  have hbb := (Below.refl w5.heap.size w5).alloc (Nat.le_refl _) (.cells #[.slice va XL vc, .slice oa LL oc, (.iface 240 (.pointer (some (E code))))] 72)
  have HT6 := Lib.hid (HT5.out.next hbb)
  have HN6 := Lib.hid (heap_alloc_new w5 (.cells #[.slice va XL vc, .slice oa LL oc, (.iface 240 (.pointer (some (E code))))] 72))
  have HB6 := Lib.hid hbb
  obtain ⟨w6, hw6⟩ : ∃ w6, w6 = w5.alloc (.cells #[.slice va XL vc, .slice oa LL oc, (.iface 240 (.pointer (some (E code))))] 72) := ⟨_, rfl⟩
  rw [← hw6] at HT6 HN6 HB6
  have hx6 : w5.heap.size < w6.heap.size := (Array.getElem?_eq_some_iff.1 HN6.out).1
  obtain ⟨r0, r1⟩ := pair_cells HT6.out.res
  obtain ⟨rf0, rf1⟩ := pair_frozen HT6.out.res
  have HX := Lib.hid (HT6.out.set2 (.slice none 0 0) (.slice none 0 0)).1
  have HBf := Lib.hid (HT6.out.bel.trans ((HT6.out.set2 (.slice none 0 0) (.slice none 0 0)).2.mono (by omega)))
  have hsf : ((w6.setCell ⟨w.heap.size + 1 + 1, 0, none⟩ (.slice none 0 0)).setCell ⟨w.heap.size + 1 + 1, 1, none⟩ (.slice none 0 0)).heap.size = w6.heap.size := pair_size _ _ _ _
  have HRb : Hid (((w6.setCell ⟨w.heap.size + 1 + 1, 0, none⟩ (.slice none 0 0)).setCell ⟨w.heap.size + 1 + 1, 1, none⟩ (.slice none 0 0)).heap[w5.heap.size]? = some (.cells #[.slice va XL vc, .slice oa LL oc, (.iface 240 (.pointer (some (E code))))] 72 (0, 0))) := (pair_other _ _ (by have := HT5.out.lt; omega)).trans HN6.out
  have HOf : Hid (Own ((w6.setCell ⟨w.heap.size + 1 + 1, 0, none⟩ (.slice none 0 0)).setCell ⟨w.heap.size + 1 + 1, 1, none⟩ (.slice none 0 0)) w4.heap.size mid va XL xs) := (HOw.out.below HB6.out hm2).kept (fun j q1 q2 => pair_other _ _ (by omega))
  have HPf := Lib.hid (own_of_cells (rowO_keep (W' := ((w6.setCell ⟨w.heap.size + 1 + 1, 0, none⟩ (.slice none 0 0)).setCell ⟨w.heap.size + 1 + 1, 1, none⟩ (.slice none 0 0))) (rowO_step (B := 0) HRw.out HB6.out) (fun k y e hk => pair_other _ _ (by omega))) (Nat.le_refl _))
  have HCf := Lib.hid (caps_of_row HRw.out)
  rw [hw6] at r0 r1 rf0 rf1
  have HW6 := Lib.hid hw6
  clear hbb hw6 HT5 HT6 HN6 HB6
  go_wp2
  rw [← HW6.out]
  change bodyPost _ _ _ _ _ ((w6.setCell ⟨w.heap.size + 1 + 1, 0, none⟩ (.slice none 0 0)).setCell ⟨w.heap.size + 1 + 1, 1, none⟩ (.slice none 0 0))
  clear r0 r1 rf0 rf1
  generalize ((w6.setCell ⟨w.heap.size + 1 + 1, 0, none⟩ (.slice none 0 0)).setCell ⟨w.heap.size + 1 + 1, 1, none⟩ (.slice none 0 0)) = wf at HX HBf hsf HRb HOf HPf ⊢
  have hl5 : w.heap.size ≤ w5.heap.size := by omega
  generalize w5.heap.size = rb at HRb hm2 hs5 hx6 hl5 ⊢
  obtain ⟨q0, q1⟩ := pair_cells HX.out
  refine bodyPost_ret (v := .tuple #[.agg #[.slice none 0 0, .slice none 0 0], .iface 68 (.pointer (some ⟨rb, 0, none⟩))]) (by simp [results, Tryz.results40, go_sem, q0, q1]) rfl (PfP.eqr (show PfP E (code, xs, l) w _ wf from .inr ⟨hc3, hc4, rb, va, vc, oa, oc, mid, rfl, ?_, hl5, ?_, ?_, by omega, by omega, ?_, ?_, HBf.out⟩) HRT.out.symm)
  ·show wf.heap[rb]? = some (.cells #[.slice va xs.length vc, .slice oa l.length oc, errV E code] _ _)
   rw [← HXL.out, ← HLL.out, HER.out]
   exact HRb.out
  ·show Own wf w.heap.size mid va xs.length xs
   rw [← HXL.out]
   exact HOf.out.more (by omega) (Nat.le_refl _)
  ·show OwnOps wf mid wf.heap.size oa l.length l
   rw [← HLL.out]
   exact HPf.out
  ·show Caps va xs.length vc
   rw [← HXL.out]
   exact HCa.out
  ·show Caps oa l.length oc
   rw [← HLL.out]
   exact HCf.out
set_option linter.unusedVariables false
set_option linter.unusedSimpArgs false

/-- What a command answers: a code, and a cart of the call's own. -/
def IssI (r : Int × List Int × List OpV) (w : World) (e : Ending) (w' : World) : Prop :=
 ∃ va vc oa oc mid, e = .returned (.tuple #[.agg #[.slice va r.2.1.length vc, .slice oa r.2.2.length oc], .int .i64 r.1]) ∧ Own w' w.heap.size mid va r.2.1.length r.2.1 ∧ OwnOps w' mid w'.heap.size oa r.2.2.length r.2.2 ∧ w.heap.size ≤ mid ∧ mid ≤ w'.heap.size ∧ Caps va r.2.1.length vc ∧ Caps oa r.2.2.length oc ∧ Below w.heap.size w w'
set_option maxHeartbeats 40000000 in
theorem issueOf (w : World) (B : Nat) (E : Int → Addr) (hE : Errs w B E) (hB : B ≤ w.heap.size) (av ao : Option Addr) (nv cv no co : Nat) (dev kind qty dv sq : Int) (item : ByteArray) (r : Int × List Int × List OpV)
  (hP : ∀ w0, Below w.heap.size w w0 → Calls Tryz.prog 40 #[.agg #[.slice av nv cv, .slice ao no co], .int .i64 dev, .agg #[.int .i64 kind, .string item, .int .i64 qty, .int .i64 dv, .int .i64 sq]] w0 (PfP E r w0)) :
  Calls Tryz.prog 11 #[.agg #[.slice av nv cv, .slice ao no co], .int .i64 dev, .agg #[.int .i64 kind, .string item, .int .i64 qty, .int .i64 dv, .int .i64 sq]] w (IssI r w) := by
 have hT := Trio.mk0 w #[.slice av nv cv, .slice ao no co] #[.int .i64 kind, .string item, .int .i64 qty, .int .i64 dv, .int .i64 sq] #[.slice none 0 0, .slice none 0 0] 32 36 32
 have HE := Lib.hid (hE.below hT.bel hB)
 have HT := Lib.hid hT
 have HP := Lib.hid hP
 have hE5 := hE.low
 clear hT hE hP
 go_enter Tryz.func11, Tryz.ntmps11
 go_upto_region 1 with fail
 generalize ((w.alloc (.cells #[.slice av nv cv, .slice ao no co] 32)).alloc (.cells #[.int .i64 kind, .string item, .int .i64 qty, .int .i64 dv, .int .i64 sq] 36)).alloc (.cells #[.slice none 0 0, .slice none 0 0] 32) = w0 at HE HT ⊢
 have hs0 := HT.out.lt
 obtain ⟨c0, c1⟩ := pair_cells HT.out.fst
 obtain ⟨d0, d1, d2, d3, d4⟩ := cmd_cells5 HT.out.snd
 go_wp2_with fail
 refine (HP.out w0 HT.out.bel).mono ?_
 rintro e w1 (⟨hr0, hch⟩ | ⟨hr1, hr2, rb, ka, kc, oa, oc, mid, rfl, hrb, hrw, hown, hops, hm1, hm2, hcv, hco, hb1⟩)
 ·rcases hch with ⟨h1, _⟩ | ⟨_, va, vc, oa, oc, mid, rfl, hown, hops, hm1, hm2, hcv, hco, hb1⟩
  ·exact absurd hr0 h1
  have HT1 := Lib.hid (HT.out.next hb1)
  have HOw := Lib.hid hown
  have HOp := Lib.hid hops
  have HCv := Lib.hid hcv
  have HCo := Lib.hid hco
  have HR0 := Lib.hid hr0
  have hs1 := hb1.size
  clear hb1 hown hops hcv hco hr0 c0 c1 d0 d1 d2 d3 d4 HT HE HP
  obtain ⟨zl, hzl⟩ : ∃ zl, zl = r.2.1.length := ⟨_, rfl⟩
  obtain ⟨ml, hml⟩ : ∃ ml, ml = r.2.2.length := ⟨_, rfl⟩
  rw [← hzl, ← hml]
  have HZL := Lib.hid hzl
  have HML := Lib.hid hml
  clear hzl hml
  go_upto_region 2 with fail
  have hbb := (Below.refl w1.heap.size w1).alloc (Nat.le_refl _) (.cells #[.slice va zl vc, .slice oa ml oc] 32)
  have HT2 := Lib.hid (HT1.out.next hbb)
  have HN2 := Lib.hid (heap_alloc_new w1 (.cells #[.slice va zl vc, .slice oa ml oc] 32))
  have HB2 := Lib.hid hbb
  clear hbb HT1
  generalize w1.alloc (.cells #[.slice va zl vc, .slice oa ml oc] 32) = w2 at HT2 HN2 HB2 ⊢
  have hx2 : w1.heap.size < w2.heap.size := (Array.getElem?_eq_some_iff.1 HN2.out).1
  go_upto_region 3 with fail
  have hbb := (Below.refl w2.heap.size w2).alloc (Nat.le_refl _) (.cells #[.pointer none] 68)
  have HT3 := Lib.hid (HT2.out.next hbb)
  have HN3 := Lib.hid ((hbb.block _ hx2).trans HN2.out)
  have HB3 := Lib.hid (HB2.out.trans (hbb.mono (Nat.le_of_lt hx2)))
  have hs3 := hbb.size
  clear hbb HT2 HN2 HB2
  generalize w2.alloc (.cells #[.pointer none] 68) = w3 at HT3 HN3 HB3 hs3 ⊢
  go_wp2_with fail
  refine (asNil _ w3).mono ?_
  rintro e w3' ⟨rfl, rfl⟩
  generalize w1.heap.size = nb at hs1 hx2 hm2 HN3 HB3 HOp ⊢
  obtain ⟨n0, n1⟩ := pair_cells HN3.out
  obtain ⟨r0, r1⟩ := pair_cells HT3.out.res
  obtain ⟨rf0, rf1⟩ := pair_frozen HT3.out.res
  have HX := Lib.hid (HT3.out.set2 (.slice va zl vc) (.slice oa ml oc)).1
  have HBf := Lib.hid (HT3.out.bel.trans ((HT3.out.set2 (.slice va zl vc) (.slice oa ml oc)).2.mono (by omega)))
  have hsf : ((w3'.setCell ⟨w.heap.size + 1 + 1, 0, none⟩ (.slice va zl vc)).setCell ⟨w.heap.size + 1 + 1, 1, none⟩ (.slice oa ml oc)).heap.size = w3'.heap.size := pair_size _ _ _ _
  have HOf : Hid (Own ((w3'.setCell ⟨w.heap.size + 1 + 1, 0, none⟩ (.slice va zl vc)).setCell ⟨w.heap.size + 1 + 1, 1, none⟩ (.slice oa ml oc)) w0.heap.size mid va r.2.1.length r.2.1) := (HOw.out.below HB3.out hm2).kept (fun j q1 q2 => pair_other _ _ (by omega))
  have HPf : Hid (OwnOps ((w3'.setCell ⟨w.heap.size + 1 + 1, 0, none⟩ (.slice va zl vc)).setCell ⟨w.heap.size + 1 + 1, 1, none⟩ (.slice oa ml oc)) mid nb oa r.2.2.length r.2.2) := (HOp.out.below HB3.out (Nat.le_refl _)).kept (fun j q1 q2 => pair_other _ _ (by omega))
  go_wp2
  change bodyPost _ _ _ _ _ ((w3'.setCell ⟨w.heap.size + 1 + 1, 0, none⟩ (.slice va zl vc)).setCell ⟨w.heap.size + 1 + 1, 1, none⟩ (.slice oa ml oc))
  clear n0 n1 r0 r1 rf0 rf1
  generalize ((w3'.setCell ⟨w.heap.size + 1 + 1, 0, none⟩ (.slice va zl vc)).setCell ⟨w.heap.size + 1 + 1, 1, none⟩ (.slice oa ml oc)) = wf at HX HBf hsf HOf HPf ⊢
  obtain ⟨q0, q1⟩ := pair_cells HX.out
  exact bodyPost_ret (v := .tuple #[.agg #[.slice va zl vc, .slice oa ml oc], .int .i64 0]) (by simp [results, Tryz.results11, go_sem, q0, q1]) rfl ⟨va, vc, oa, oc, mid, by rw [HZL.out, HML.out, HR0.out], HOf.out.more (by omega) (Nat.le_refl _), HPf.out.more (Nat.le_refl _) (by omega), by omega, by omega, HCv.out, HCo.out, HBf.out⟩
 ·have HT1 := Lib.hid (HT.out.next hb1)
  have HE1 := Lib.hid (HE.out.below hb1 (by omega))
  have HOw := Lib.hid hown
  have HOp := Lib.hid hops
  have HCv := Lib.hid hcv
  have HCo := Lib.hid hco
  have HRb := Lib.hid hrb
  have hs1 := hb1.size
  have hrb1 : rb < w1.heap.size := (Array.getElem?_eq_some_iff.1 hrb).1
  clear hb1 hown hops hcv hco hrb c0 c1 d0 d1 d2 d3 d4 HT HE HP
  obtain ⟨zl, hzl⟩ : ∃ zl, zl = r.2.1.length := ⟨_, rfl⟩
  obtain ⟨ml, hml⟩ : ∃ ml, ml = r.2.2.length := ⟨_, rfl⟩
  obtain ⟨code, hcode⟩ : ∃ code, code = r.1 := ⟨_, rfl⟩
  rw [← hzl, ← hml, ← hcode] at HRb
  rw [← hcode] at hr1 hr2
  have HZL := Lib.hid hzl
  have HML := Lib.hid hml
  have HCD := Lib.hid hcode
  clear hzl hml hcode
  go_upto_region 2 with fail
  have hbb := (Below.refl w1.heap.size w1).alloc (Nat.le_refl _) (.cells #[.slice none 0 0, .slice none 0 0] 32)
  have HT2 := Lib.hid (HT1.out.next hbb)
  have HE2 := Lib.hid (HE1.out.below hbb (by omega))
  have HB2 := Lib.hid hbb
  have hs2 := hbb.size
  clear hbb HT1 HE1
  generalize w1.alloc (.cells #[.slice none 0 0, .slice none 0 0] 32) = w2 at HT2 HE2 HB2 hs2 ⊢
  go_upto_region 3 with fail
  have hbb := (Below.refl w2.heap.size w2).alloc (Nat.le_refl _) (.cells #[.pointer none] 68)
  have HT3 := Lib.hid (HT2.out.next hbb)
  have HE3 := Lib.hid (HE2.out.below hbb (by omega))
  have HB3 := Lib.hid (HB2.out.trans (hbb.mono hs2))
  have HN3 := Lib.hid (heap_alloc_new w2 (.cells #[.pointer none] 68))
  have hs3 := hbb.size
  clear hbb HT2 HE2 HB2
  generalize w2.alloc (.cells #[.pointer none] 68) = w3 at HT3 HE3 HB3 HN3 hs3 ⊢
  have hx3 : w2.heap.size < w3.heap.size := (Array.getElem?_eq_some_iff.1 HN3.out).1
  generalize w2.heap.size = tb at hs2 hs3 hx3 HN3 ⊢
  go_wp2_with fail
  refine (asHit tb ⟨rb, 0, none⟩ ⟨tb, 0, none⟩ (.pointer none) w3 hs3 (Nat.le_refl _) rfl HE3.out.typ (cell_of_row _ _ _ _ _ _ HN3.out) (frozen_of_row _ _ _ _ _ HN3.out)).mono ?_
  rintro e w4 ⟨rfl, hb4, ht4, hot⟩
  have HT4 : Hid (Trio w w4 #[.slice av nv cv, .slice ao no co] 32 #[.int .i64 kind, .string item, .int .i64 qty, .int .i64 dv, .int .i64 sq] 36 #[.slice none 0 0, .slice none 0 0] 32) := ⟨(hb4.block _ (by omega)).trans HT3.out.fst, (hb4.block _ (by omega)).trans HT3.out.snd, (hb4.block _ (by omega)).trans HT3.out.res, HT3.out.bel.trans (hb4.mono (by omega))⟩
  have HE4 := Lib.hid (HE3.out.below hb4 (by omega))
  have HB4 := Lib.hid (HB3.out.trans (hb4.mono hs2))
  have hs4 := hb4.size
  have HTC := Lib.hid ht4
  have HRb4 := Lib.hid ((HB4.out.block _ hrb1).trans HRb.out)
  clear hb4 ht4 hot HT3 HE3 HB3 HN3
  obtain ⟨k0, k1, k2⟩ := ln3_cells HRb4.out
  have hS : w4.cell? ⟨tb, 0, none⟩ = some (.pointer (some ⟨rb, 0, none⟩)) ∧ w4.cell? ⟨rb, 0, none⟩ = some (.slice ka zl kc) ∧ w4.cell? ⟨rb, 1, none⟩ = some (.slice oa ml oc) := ⟨HTC.out, k0, k1⟩
  go_wp2_with fail
  refine wp_region_held_drew (S := fun w' => w'.cell? ⟨tb, 0, none⟩ = some (.pointer (some ⟨rb, 0, none⟩)) ∧ w'.cell? ⟨rb, 0, none⟩ = some (.slice ka zl kc) ∧ w'.cell? ⟨rb, 1, none⟩ = some (.slice oa ml oc)) (by kernel_rfl) hS (fun hHeld => ?_)
  have HBz : Hid (Below w4.heap.size w4 w4.drew) := ⟨rfl, rfl, rfl, Nat.le_refl _, fun _ _ => rfl⟩
  have hk2z : w4.drew.cell? ⟨rb, 0 + 2, none⟩ = some (errV E code) := k2
  generalize w4.drew = z0 at HBz hHeld hk2z ⊢
  have HTz := Lib.hid (HT4.out.next HBz.out)
  have HEz := Lib.hid (HE4.out.below HBz.out (by omega))
  have HBz1 := Lib.hid (HB4.out.trans (HBz.out.mono (by omega)))
  have hsz := HBz.out.size
  clear hS k0 k1 k2 HT4 HE4 HBz
  refine tk 0 ⟨some 21, .load 68 (.tmp 10), 68, "l06_commands.go:242", #[], none⟩ ?_
  (try simp only [Act.put, u1, u2, u3])
  refine tk 1 ⟨some 22, .nilCheck (.tmp 21), 0, "l06_commands.go:242", #[⟨0, .data⟩], none⟩ ?_
  (try simp only [Act.put, u1, u2, u3])
  refine tk 2 ⟨some 23, .fieldAddr 72 (.tmp 22) 0, 0, "l06_commands.go:242", #[⟨1, .data⟩], none⟩ ?_
  (try simp only [Act.put, u1, u2, u3])
  refine tk 3 ⟨some 24, .load 32 (.tmp 23), 32, "l06_commands.go:242", #[⟨2, .data⟩], none⟩ ?_
  (try simp only [Act.put, u1, u2, u3])
  refine tk 4 ⟨some 25, .load 68 (.tmp 10), 68, "l06_commands.go:242", #[], none⟩ ?_
  (try simp only [Act.put, u1, u2, u3])
  refine tk 5 ⟨some 26, .makeInterface 68 (.tmp 25), 65, "l06_commands.go:242", #[⟨4, .data⟩], none⟩ ?_
  (try simp only [Act.put, u1, u2, u3])
  refine rk 6 rfl (fun K hK => ?_)
  go_simp
  go_at_call 42
  refine (codeOfW z0 B E HEz.out rb 0 code hr1 hr2 hk2z).mono ?_
  rintro e z1 ⟨rfl, rfl⟩
  refine hK.out _ _ hHeld (fun hHeld2 => ?_)
  clear hK K
  (try simp only [Act.put, u1, u2, u3])
  obtain ⟨r0, r1⟩ := pair_cells HTz.out.res
  obtain ⟨rf0, rf1⟩ := pair_frozen HTz.out.res
  refine rk 7 rfl (fun K hK => ?_)
  go_simp
  refine hK.out _ _ ⟨(World.cell?_of_block (a := ⟨tb, 0, none⟩) (pair_other (w := z1) (b := w.heap.size + 1 + 1) (k := tb) (.slice ka zl kc) (.slice oa ml oc) (by omega))).trans hHeld.1, (World.cell?_of_block (a := ⟨rb, 0, none⟩) (pair_other (w := z1) (b := w.heap.size + 1 + 1) (k := rb) (.slice ka zl kc) (.slice oa ml oc) (by omega))).trans hHeld.2.1, (World.cell?_of_block (a := ⟨rb, 1, none⟩) (pair_other (w := z1) (b := w.heap.size + 1 + 1) (k := rb) (.slice ka zl kc) (.slice oa ml oc) (by omega))).trans hHeld.2.2⟩ (fun hHeld3 => ?_)
  clear hK K
  (try simp only [Act.put, u1, u2, u3])
  refine tk 8 ⟨some 7, .assign (.tmp 27), 2, "l06_commands.go:242", #[⟨6, .data⟩, ⟨7, .chain⟩, ⟨0, .phase⟩, ⟨1, .phase⟩, ⟨2, .phase⟩, ⟨3, .phase⟩, ⟨4, .phase⟩, ⟨5, .phase⟩, ⟨6, .phase⟩, ⟨7, .phase⟩], none⟩ ?_
  (try simp only [Act.put, u1, u2, u3])
  refine wpAnyH_done (by kernel_rfl) ?_ _
  have HX := Lib.hid (HTz.out.set2 (.slice ka zl kc) (.slice oa ml oc)).1
  have HBf := Lib.hid (HTz.out.bel.trans ((HTz.out.set2 (.slice ka zl kc) (.slice oa ml oc)).2.mono (by omega)))
  have hsf : ((z1.setCell ⟨w.heap.size + 1 + 1, 0, none⟩ (.slice ka zl kc)).setCell ⟨w.heap.size + 1 + 1, 1, none⟩ (.slice oa ml oc)).heap.size = z1.heap.size := pair_size _ _ _ _
  have HOf : Hid (Own ((z1.setCell ⟨w.heap.size + 1 + 1, 0, none⟩ (.slice ka zl kc)).setCell ⟨w.heap.size + 1 + 1, 1, none⟩ (.slice oa ml oc)) w0.heap.size mid ka r.2.1.length r.2.1) := (HOw.out.below HBz1.out hm2).kept (fun j q1 q2 => pair_other _ _ (by omega))
  have HPf : Hid (OwnOps ((z1.setCell ⟨w.heap.size + 1 + 1, 0, none⟩ (.slice ka zl kc)).setCell ⟨w.heap.size + 1 + 1, 1, none⟩ (.slice oa ml oc)) mid w1.heap.size oa r.2.2.length r.2.2) := (HOp.out.below HBz1.out (Nat.le_refl _)).kept (fun j q1 q2 => pair_other _ _ (by omega))
  go_wp2
  change bodyPost _ _ _ _ _ ((z1.setCell ⟨w.heap.size + 1 + 1, 0, none⟩ (.slice ka zl kc)).setCell ⟨w.heap.size + 1 + 1, 1, none⟩ (.slice oa ml oc))
  clear r0 r1 rf0 rf1 hHeld hHeld2 hHeld3 hk2z
  generalize ((z1.setCell ⟨w.heap.size + 1 + 1, 0, none⟩ (.slice ka zl kc)).setCell ⟨w.heap.size + 1 + 1, 1, none⟩ (.slice oa ml oc)) = wf at HX HBf hsf HOf HPf ⊢
  obtain ⟨q0, q1⟩ := pair_cells HX.out
  exact bodyPost_ret (v := .tuple #[.agg #[.slice ka zl kc, .slice oa ml oc], .int .i64 code]) (by simp [results, Tryz.results11, go_sem, q0, q1]) rfl ⟨ka, kc, oa, oc, mid, by rw [HZL.out, HML.out, HCD.out], HOf.out.more (by omega) (Nat.le_refl _), HPf.out.more (Nat.le_refl _) (by omega), by omega, by omega, HCv.out, HCo.out, HBf.out⟩
/-- At a right cart of four numbers. -/
theorem implIssue (w : World) (B : Nat) (E : Int → Addr) (hE : Errs w B E) (g off : Nat) (ao : Option Addr) (cv no co : Nat) (xs : List Int) (l : List OpV) (dev kind qty dv sq : Int) (item : ByteArray) (hx : Ints w B (some ⟨g, off, none⟩) 4 xs) (h : Ops w B ao no l) (hB : B ≤ w.heap.size) (hcv : 4 ≤ cv) (hco : Caps ao no co) (hno : no ≤ 1048576) (hi : item.size ≤ 1048576) :
  Calls Tryz.prog 11 #[.agg #[.slice (some ⟨g, off, none⟩) 4 cv, .slice ao no co], .int .i64 dev, .agg #[.int .i64 kind, .string item, .int .i64 qty, .int .i64 dv, .int .i64 sq]] w (IssI (issueN xs l dev kind item qty dv sq) w) := by
 have hfit : Fits no co := ⟨hno, hco.2.1⟩
 by_cases hok : cartB xs l = true ∧ inB dev 0 3 = true ∧ cmdB kind item qty dv sq = true
 ·obtain ⟨hc, hdv, hcm⟩ := hok
  have hd : 0 ≤ dev ∧ dev ≤ 3 := by unfold inB at hdv; exact of_decide_eq_true hdv
  obtain ⟨d, rfl⟩ : ∃ d : Nat, dev = (d : Int) := ⟨dev.toNat, by omega⟩
  have e : issueN xs l (d : Int) kind item qty dv sq = (if (l6N xs l d kind item qty dv sq).1 = 0 then l6N xs l d kind item qty dv sq else ((l6N xs l d kind item qty dv sq).1, xs, l)) := by
   unfold issueN
   rw [if_pos ⟨hc, hdv, hcm⟩]
   rfl
  rw [e]
  exact issueOf w B E hE hB _ _ _ _ _ _ _ _ _ _ _ _ _ (fun w0 hb => performedGo w0 B E (hE.below hb hB) g off ao cv no co d xs l kind qty dv sq item (hx.below hb hB) (h.below hb hB) (Nat.le_trans hB hb.size) hcv hco hc (by omega) hi hcm)
 ·have e : issueN xs l dev kind item qty dv sq = (1, [], []) := by
   unfold issueN
   rw [if_neg hok]
  rw [e]
  exact issueOf w B E hE hB _ _ _ _ _ _ _ _ _ _ _ _ _ (fun w0 hb => performedForm w0 B E (hE.below hb hB) _ ao 4 cv no co xs l dev kind qty dv sq item (hx.below hb hB) (h.below hb hB) (Nat.le_trans hB hb.size) (by omega) hco.1 hfit (by
   cases h1 : cartB xs l
   ·exact .inl rfl
   ·cases h2 : inB dev 0 3
    ·exact .inr (.inl ⟨rfl, rfl⟩)
    ·refine .inr (.inr ⟨rfl, rfl, ?_⟩)
     cases h3 : cmdB kind item qty dv sq
     ·rfl
     ·exact absurd ⟨h1, h2, h3⟩ hok))
/-- At a cart that is not right. -/
theorem implIssueBad (w : World) (B : Nat) (E : Int → Addr) (hE : Errs w B E) (av ao : Option Addr) (nv cv no co : Nat) (xs : List Int) (l : List OpV) (dev kind qty dv sq : Int) (item : ByteArray) (hx : Ints w B av nv xs) (h : Ops w B ao no l) (hB : B ≤ w.heap.size) (hv : nv ≤ 1048576) (hc : no ≤ co) (hc2 : Fits no co) (hbad : cartB xs l = false) :
  Calls Tryz.prog 11 #[.agg #[.slice av nv cv, .slice ao no co], .int .i64 dev, .agg #[.int .i64 kind, .string item, .int .i64 qty, .int .i64 dv, .int .i64 sq]] w (IssI (1, [], []) w) :=
 issueOf w B E hE hB _ _ _ _ _ _ _ _ _ _ _ _ _ (fun w0 hb => performedForm w0 B E (hE.below hb hB) av ao nv cv no co xs l dev kind qty dv sq item (hx.below hb hB) (h.below hb hB) (Nat.le_trans hB hb.size) hv hc hc2 (.inl hbad))
end Go.Proofs.YtjokbaaommicmaaGreatDoor
