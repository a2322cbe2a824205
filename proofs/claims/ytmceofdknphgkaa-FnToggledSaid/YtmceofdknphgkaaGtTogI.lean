/- The walk of impl.Toggled. -/
import Derived.Test.YtmceofdknphgkaaGa21
import Derived.Deep.Cut
import Derived.Test.YtmceofdknphgkaaGtS
namespace Go.Proofs.Ytmceofdknphgkaa
open Go.RowKit

theorem filt_items {q : OpV → Bool} {m : List OpV} {N : Nat} (h : ∀ i, i < m.length → (atOp m i).item.size ≤ N) : ∀ i, i < (m.filter q).length → ((m.filter q).getD i OpV.zero).item.size ≤ N := fun i hi => by
  rw [List.getD_eq_getElem?_getD, List.getElem?_eq_getElem hi]
  have hm : (m.filter q)[i] ∈ m := (List.mem_filter.1 (List.getElem_mem hi)).1
  obtain ⟨j, hj, e⟩ := List.mem_iff_getElem.1 hm
  have := h j hj
  unfold atOp at this
  rw [List.getD_eq_getElem?_getD, List.getElem?_eq_getElem hj] at this
  rw [← e]
  exact this
theorem live_of {o : OpV} (h : o.ok = true) : liveB o.dev o.seq o.stamp o.kind o.item o.qty o.level o.undos = liveU o := by
  unfold liveB liveU
  have h' : opB o.dev o.seq o.stamp o.kind o.item o.qty o.level o.undos = true := h
  rw [h']
  rfl

set_option linter.unusedSimpArgs false in
set_option maxRecDepth 100000 in
set_option maxHeartbeats 8000000 in
theorem implToggled (w : World) (B : Nat) (av ao bv bo : Option Addr) (nv cv no co mv dv mo eo : Nat) (xs : List Int) (l : List OpV) (ys : List Int) (m : List OpV) (hx : Ints w B av nv xs) (h : Ops w B ao no l) (hy : Ints w B bv mv ys) (g : Ops w B bo mo m) (hB : B ≤ w.heap.size) (hv : nv ≤ 1048576) (hc : no ≤ co) (hc2 : Fits no co) (hv2 : mv ≤ 1048576) (he : mo ≤ eo) (he2 : Fits mo eo) (hm2 : ∀ i, i < mo → (atOp m i).item.size ≤ 1048576) :
    Calls Try.prog 23 #[.agg #[.slice av nv cv, .slice ao no co], .agg #[.slice bv mv dv, .slice bo mo eo]] w (OpsPost (togL xs l ys m) w) := by
  have hn1048 : no ≤ 1048576 := hc2.1
  have he1048 : mo ≤ 1048576 := he2.1
  obtain ⟨i0, hi0', hz0, hz1, hz2⟩ := info_parts Try.infoOp
  have hT := Two.mk0 w #[.slice av nv cv, .slice ao no co] #[.slice bv mv dv, .slice bo mo eo] 27
  have HV := Lib.hid (hx.below hT.bel hB)
  have HO := Lib.hid (h.below hT.bel hB)
  have HY := Lib.hid (hy.below hT.bel hB)
  have HG := Lib.hid (g.below hT.bel hB)
  have HT := Lib.hid hT
  have HL := Lib.hid h.1
  have HLm := Lib.hid g.1
  have HM2 := Lib.hid hm2
  have hBw := hB
  have hn : no ≤ 1048576 := hc2.1
  have hn2 : mo ≤ 1048576 := he2.1
  clear hx h hy g hT hm2 hB
  go_enter Try.func23, Try.ntmps23
  go_wp2_with fail
  generalize (w.alloc (.cells #[.slice av nv cv, .slice ao no co] 27)).alloc (.cells #[.slice bv mv dv, .slice bo mo eo] 27) = w0 at HV HO HY HG HT ⊢
  have hsz0 := HT.out.bel.size
  have hsz1 := lt_of_row HT.out.snd
  refine (implCartOk w0 B av ao nv cv no co xs l HV.out HO.out (by omega) hv hc hc2).mono ?_
  rintro e w1 ⟨rfl, hb1⟩
  have HO1 := Lib.hid (HO.out.below hb1 (by omega))
  have HY1 := Lib.hid (HY.out.below hb1 (by omega))
  have HG1 := Lib.hid (HG.out.below hb1 (by omega))
  have HT1 := Lib.hid (HT.out.next hb1)
  have hs1 := hb1.size
  clear hb1 HV HO HY HG HT
  rcases hca : cartB xs l with _ | _
  · have HF := Lib.hid (tog_no (xs := xs) (l := l) (ys := ys) (m := m) (by rw [hca]; rfl))
    clear hca
    go_wp2
    go_ret
    exact ⟨none, 0, by rw [HF.out]; rfl, by rw [HF.out]; exact own_none _ _ _ _, HT1.out.bel⟩
  obtain ⟨b0, b1⟩ := pair_cells HT1.out.snd
  go_wp2_with fail
  refine (implCartOk w1 B bv bo mv dv mo eo ys m HY1.out HG1.out (by omega) hv2 he he2).mono ?_
  rintro e w2 ⟨rfl, hb2⟩
  have HO2 := Lib.hid (HO1.out.below hb2 (by omega))
  have HG2 := Lib.hid (HG1.out.below hb2 (by omega))
  have HT2 := Lib.hid (HT1.out.next hb2)
  have hs2 := hb2.size
  clear hb2 HO1 HY1 HG1 HT1 b0 b1
  rcases hcb : cartB ys m with _ | _
  · have HF := Lib.hid (tog_no (xs := xs) (l := l) (ys := ys) (m := m) (by rw [hca, hcb]; rfl))
    clear hca hcb
    go_wp2
    go_ret
    exact ⟨none, 0, by rw [HF.out]; rfl, by rw [HF.out]; exact own_none _ _ _ _, HT2.out.bel⟩
  have HF := Lib.hid (tog_yes (xs := xs) (l := l) (ys := ys) (m := m) (by rw [hca, hcb]; rfl))
  have HInc := Lib.hid (cart_inc hca)
  have HOka := Lib.hid (fun i (hi : i < l.length) => cart_ok_at hca hi)
  have HOkb := Lib.hid (fun i (hi : i < m.length) => cart_ok_at hcb hi)
  clear hca hcb
  obtain ⟨a0, a1⟩ := pair_cells HT2.out.fst
  go_wp2_with fail
  refine (numbered w2 ao no co).mono ?_
  rintro e w3 ⟨rfl, hb3⟩
  have HO3 := Lib.hid (HO2.out.below hb3 (by omega))
  have HG3 := Lib.hid (HG2.out.below hb3 (by omega))
  have HT3 := Lib.hid (HT2.out.next hb3)
  have hs3 := hb3.size
  clear hb3 HO2 HG2 HT2 a0 a1
  go_upto_region 4 with fail
  have hb4 : Below w3.heap.size w3 (w3.alloc (.cells #[.slice ao no co, .func (.func 146) #[] #[]] 81)) := (Below.refl _ _).alloc (Nat.le_refl _) _
  have HN4 := Lib.hid (boxAt (Below.refl _ (w3.alloc (.cells #[.slice ao no co, .func (.func 146) #[] #[]] 81))))
  have hn4 : w3.heap.size + 1 ≤ (w3.alloc (.cells #[.slice ao no co, .func (.func 146) #[] #[]] 81)).heap.size := by show _ ≤ (w3.heap.push _).size; simp
  generalize w3.alloc (.cells #[.slice ao no co, .func (.func 146) #[] #[]] 81) = w4 at hb4 HN4 hn4 ⊢
  have HO4 := Lib.hid (HO3.out.below hb4 (by omega))
  have HG4 := Lib.hid (HG3.out.below hb4 (by omega))
  have HT4 := Lib.hid (HT3.out.next hb4)
  generalize w3.heap.size = nb at HN4 hn4 hs3 ⊢
  clear hb4 HO3 HG3 HT3
  obtain ⟨b0, b1⟩ := pair_cells HT4.out.snd
  go_wp2
  go_loopw [6, 25] (fun v i wr => ∃ (k : Nat) (vv : Value), k ≤ mo ∧ vv = v ∧ i = .int .i64 (k : Int) ∧ Hid (wr.ownsRow (nb + 1) 34 8 v ((m.take k).filter (togB l)).length (opCells ((m.take k).filter (togB l)))) ∧ Hid (Below (nb + 1) w4 wr)) (fun _ i _ => mo - (intOf i).toNat)
  case atStart => exact ⟨0, _, Nat.zero_le _, rfl, rfl, World.ownsRow_nil _ _ _ _, Below.refl _ _⟩
  case round =>
    obtain ⟨k, vv, hk, hvv, rfl, HR, HBr⟩ := hrel
    subst hvv
    clear b0 b1
    have hsr := HBr.out.size
    by_cases hlt : k < mo
    rotate_left
    · obtain rfl : k = mo := by omega
      have HTk : Hid (m.take k = m) := by show _ = _; rw [← HLm.out]; exact List.take_length
      rw [HTk.out] at HR
      have HIt := Lib.hid (filt_items (q := togB l) (m := m) (N := 1048576) (fun i hi => HM2.out i (by rw [← HLm.out]; exact hi)))
      have hlenL : (m.filter (togB l)).length ≤ 1048576 := by have := List.length_filter_le (togB l) m; have := HLm.out; omega
      generalize m.filter (togB l) = L at HR HF HIt hlenL
      have HP : Hid (∃ a c, vv = .slice a L.length c ∧ (a = none → c = 0) ∧ OwnOps wr (nb + 1) wr.heap.size a L.length L) := by
        have hr := HR.out
        rcases hr.2 with ⟨e, e2⟩ | ⟨g, c, cur, e, r⟩
        · subst e
          rw [e2] at hr ⊢
          exact ⟨none, 0, rfl, fun _ => rfl, own_of_cells hr (Nat.le_refl _)⟩
        · subst e
          exact ⟨_, c, rfl, (fun h => by cases h), own_of_cells hr (Nat.le_refl _)⟩
      obtain ⟨ra, rc, rfl, hrc, hown⟩ := HP.out
      have HOo := Lib.hid hown
      have HRc := Lib.hid hrc
      clear hown hrc HP HR
      go_wp2_with fail
      refine (copiedOps wr wr.heap.size ra L.length rc L HOo.out.ops (Nat.le_refl _) hlenL HRc.out HIt.out).mono ?_
      rintro e w5 ⟨fa, fc, rfl, hfo, hb5⟩
      have HFo := Lib.hid (hfo.more (lo' := w.heap.size) (by omega) (Nat.le_refl _))
      have hbr : Below w4.heap.size w4 wr → True := fun _ => trivial
      have HBf : Hid (Below w.heap.size w w5) := by
        have h1 : Below w.heap.size w wr := HT4.out.bel.trans (HBr.out.mono (by omega))
        exact h1.trans (hb5.mono h1.size)
      clear hfo hb5 hbr HOo
      go_wp2
      go_ret
      exact ⟨fa, fc, by rw [HF.out]; rfl, by rw [HF.out]; exact HFo.out, HBf.out⟩
    have HSt := Lib.hid (filt_step (q := togB l) (l := m) (k := k) (by rw [HLm.out]; exact hlt))
    have HOr := Lib.hid (HO4.out.below HBr.out (by omega))
    have HGr := Lib.hid (HG4.out.below HBr.out (by omega))
    have HNr := Lib.hid ((HBr.out.block _ (by omega)).trans HN4.out)
    obtain ⟨b, off, rfl, hb, ho⟩ := HGr.out.2 k hlt
    have HOk : Hid (OpAt wr b (off + k * 8) (atOp m k)) := ho
    have hlen : ((m.take k).filter (togB l)).length ≤ 1048576 := by
      have := List.length_filter_le (togB l) (m.take k)
      have := List.length_take_le k m
      omega
    have HUx := Lib.hid (live_of (HOkb.out k (by rw [HLm.out]; exact hlt)))
    have HTn : Hid ((∀ j, j < l.length → ¬ eqN l j (atOp m k).dev (atOp m k).seq) → togB l (atOp m k) = false) := fun h => togB_none h
    have HTy : Hid (∀ i, i < l.length → eqN l i (atOp m k).dev (atOp m k).seq → togB l (atOp m k) = (liveU (atOp l i) != liveU (atOp m k))) := fun i hi e => togB_at HInc.out hi e
    clear ho HGr
    generalize (m.take k).filter (togB l) = L at HR HSt hlen
    generalize atOp m k = x at HOk HSt HUx HTn HTy
    obtain ⟨d0, d1, d2, d3, d4, d5, d6, d7⟩ := HOk.out
    have hki : (k : Int) < (mo : Int) := by omega
    go_upto_region 8 with fail
    have hb5 : Below wr.heap.size wr (wr.alloc (.cells #[.int .i64 x.dev, .int .i64 x.seq, .int .i64 x.stamp, .int .i64 x.kind, .string x.item, .int .i64 x.qty, .int .i64 x.level, .int .i64 x.undos] 34)) := (Below.refl _ _).alloc (Nat.le_refl _) _
    have HXo := Lib.hid (boxAt (Below.refl _ (wr.alloc (.cells #[.int .i64 x.dev, .int .i64 x.seq, .int .i64 x.stamp, .int .i64 x.kind, .string x.item, .int .i64 x.qty, .int .i64 x.level, .int .i64 x.undos] 34))))
    have HOw5 := Lib.hid (own_row_kept HR.out hb5)
    have HO5 := Lib.hid (HOr.out.below hb5 (by omega))
    have HN5 := Lib.hid ((hb5.block _ (by omega)).trans HNr.out)
    have HB5 := Lib.hid (HBr.out.trans (hb5.mono (by omega)))
    have hs5 := hb5.size
    generalize wr.alloc (.cells #[.int .i64 x.dev, .int .i64 x.seq, .int .i64 x.stamp, .int .i64 x.kind, .string x.item, .int .i64 x.qty, .int .i64 x.level, .int .i64 x.undos] 34) = w5 at hb5 HXo HOw5 HO5 HN5 HB5 hs5 ⊢
    generalize wr.heap.size = ob at HXo hs5 hsr ⊢
    clear hb5 HR HOr HNr HOk d0 d1 d2 d3 d4 d5 d6 d7 HBr
    obtain ⟨p0, p1⟩ := pair_cells HN5.out
    obtain ⟨d0, d1, d2, d3, d4, d5, d6, d7⟩ := op_cells HXo.out
    go_wp2_with fail
    refine (counterpart w5 B ao no co l x HO5.out (by omega) hn HInc.out).mono ?_
    rintro e w6 ⟨⟨v, rfl, hlk⟩, hb6⟩
    have HLk := Lib.hid hlk
    have HOw6 := Lib.hid (own_row_kept HOw5.out hb6)
    have HXo6 := Lib.hid ((hb6.block _ (Array.getElem?_eq_some_iff.1 HXo.out).1).trans HXo.out)
    have HB6 := Lib.hid (HB5.out.trans (hb6.mono (by omega)))
    have hs6 := hb6.size
    clear hlk hb6 HOw5 HXo HO5 HN5 HB5 p0 p1 d0 d1 d2 d3 d4 d5 d6 d7
    rcases HLk.out with ⟨i, hi, hei, rfl⟩ | ⟨hnone, rfl⟩
    rotate_left
    · have HE : Hid ((m.take (k + 1)).filter (togB l) = L) := by show _ = _; rw [HSt.out, HTn.out hnone]; rfl
      clear hnone HLk
      go_upto_region 9 with fail
      have hb7 : Below w6.heap.size w6 (w6.alloc (.cells #[.int .i64 0, .int .i64 0, .int .i64 0, .int .i64 0, .string ⟨#[]⟩, .int .i64 0, .int .i64 0, .int .i64 0] 34)) := (Below.refl _ _).alloc (Nat.le_refl _) _
      have HZo := Lib.hid (boxAt (Below.refl _ (w6.alloc (.cells #[.int .i64 0, .int .i64 0, .int .i64 0, .int .i64 0, .string ⟨#[]⟩, .int .i64 0, .int .i64 0, .int .i64 0] 34))))
      have HOw7 := Lib.hid (own_row_kept HOw6.out hb7)
      have HXo7 := Lib.hid ((hb7.block _ (Array.getElem?_eq_some_iff.1 HXo6.out).1).trans HXo6.out)
      have HB7 := Lib.hid (HB6.out.trans (hb7.mono (by omega)))
      have hs7 := hb7.size
      generalize w6.alloc (.cells #[.int .i64 0, .int .i64 0, .int .i64 0, .int .i64 0, .string ⟨#[]⟩, .int .i64 0, .int .i64 0, .int .i64 0] 34) = w7 at hb7 HZo HOw7 HXo7 HB7 hs7 ⊢
      generalize w6.heap.size = zb at HZo hs7 hs6 ⊢
      clear hb7 HOw6 HXo6 HB6
      have hS : True := trivial
      go_wp2_with fail
      refine wp_region_held_drew (S := fun w' => True) (by kernel_rfl) hS (fun hHeld => ?_)
      refine wpAnyH_take (i := 0) (oi := { dst := some 35, op := .move (.tmp 10), type := 4, pos := "l07_deltas.go:112", after := #[], guard := none }) (v := ?_) rfl (by kernel_rfl) (by kernel_rfl) (by kernel_rfl) (fun _ _ _ h => h) (Or.inl ⟨by rfl, ?_⟩) (by assumption) ?_
      rotate_left
      · intro w hSw
        (try dsimp only at hSw)
        first | (go_simp; done) | (go_simp; with_reducible rfl)
      (try simp only [Act.put, List.setIfInBounds_toArray, List.set_cons_zero, List.set_cons_succ])
      refine wpAnyH_take (i := 1) (oi := { dst := some 36, op := .move (.tmp 35), type := 4, pos := "l07_deltas.go:112", after := #[⟨0, .data⟩], guard := none }) (v := ?_) rfl (by kernel_rfl) (by kernel_rfl) (by kernel_rfl) (fun _ _ _ h => h) (Or.inl ⟨by rfl, ?_⟩) (by assumption) ?_
      rotate_left
      · intro w hSw
        (try dsimp only at hSw)
        first | (go_simp; done) | (go_simp; with_reducible rfl)
      (try simp only [Act.put, List.setIfInBounds_toArray, List.set_cons_zero, List.set_cons_succ])
      refine wpAnyH_take (i := 2) (oi := { dst := some 37, op := .load 34 (.tmp 9), type := 34, pos := "l07_deltas.go:112", after := #[⟨1, .guard⟩], guard := some (1, true) }) (v := undef) rfl (by kernel_rfl) (by kernel_rfl) (by kernel_rfl) (fun _ _ _ h => h) (Or.inr ⟨by rfl, rfl⟩) (by assumption) ?_
      (try simp only [Act.put, List.setIfInBounds_toArray, List.set_cons_zero, List.set_cons_succ])
      refine wpAnyH_take (i := 3) (oi := { dst := some 38, op := .call { callee := .value (.func 27), args := #[.tmp 37], argTypes := #[34] }, type := 4, pos := "l07_deltas.go:112", after := #[⟨2, .data⟩, ⟨1, .chain⟩, ⟨1, .guard⟩], guard := some (1, true) }) (v := undef) rfl (by kernel_rfl) (by kernel_rfl) (by kernel_rfl) (fun _ _ _ h => h) (Or.inr ⟨by rfl, rfl⟩) (by assumption) ?_
      (try simp only [Act.put, List.setIfInBounds_toArray, List.set_cons_zero, List.set_cons_succ])
      refine wpAnyH_take (i := 4) (oi := { dst := some 39, op := .load 34 (.tmp 8), type := 34, pos := "l07_deltas.go:112", after := #[⟨1, .guard⟩], guard := some (1, true) }) (v := undef) rfl (by kernel_rfl) (by kernel_rfl) (by kernel_rfl) (fun _ _ _ h => h) (Or.inr ⟨by rfl, rfl⟩) (by assumption) ?_
      (try simp only [Act.put, List.setIfInBounds_toArray, List.set_cons_zero, List.set_cons_succ])
      refine wpAnyH_take (i := 5) (oi := { dst := some 40, op := .call { callee := .value (.func 27), args := #[.tmp 39], argTypes := #[34] }, type := 4, pos := "l07_deltas.go:112", after := #[⟨4, .data⟩, ⟨3, .chain⟩, ⟨1, .guard⟩], guard := some (1, true) }) (v := undef) rfl (by kernel_rfl) (by kernel_rfl) (by kernel_rfl) (fun _ _ _ h => h) (Or.inr ⟨by rfl, rfl⟩) (by assumption) ?_
      (try simp only [Act.put, List.setIfInBounds_toArray, List.set_cons_zero, List.set_cons_succ])
      refine wpAnyH_take (i := 6) (oi := { dst := some 41, op := .binOp .neq 4 (.tmp 38) (.tmp 40) 4, type := 4, pos := "l07_deltas.go:112", after := #[⟨3, .data⟩, ⟨5, .data⟩, ⟨1, .guard⟩], guard := some (1, true) }) (v := undef) rfl (by kernel_rfl) (by kernel_rfl) (by kernel_rfl) (fun _ _ _ h => h) (Or.inr ⟨by rfl, rfl⟩) (by assumption) ?_
      (try simp only [Act.put, List.setIfInBounds_toArray, List.set_cons_zero, List.set_cons_succ])
      refine wpAnyH_take (i := 7) (oi := { dst := some 42, op := .pick (.tmp 36) (.tmp 41) (.const (Value.bool false)), type := 4, pos := "l07_deltas.go:112", after := #[⟨1, .data⟩, ⟨6, .data⟩], guard := none }) (v := ?_) rfl (by kernel_rfl) (by kernel_rfl) (by kernel_rfl) (fun _ _ _ h => h) (Or.inl ⟨by rfl, ?_⟩) (by assumption) ?_
      rotate_left
      · intro w hSw
        (try dsimp only at hSw)
        first | (go_simp; done) | (go_simp; with_reducible rfl)
      (try simp only [Act.put, List.setIfInBounds_toArray, List.set_cons_zero, List.set_cons_succ])
      refine wpAnyH_done (by kernel_rfl) ?_ _
      have HBe : Hid (Below (nb + 1) w4 w7.drew) := ⟨HB7.out.os, HB7.out.tape, HB7.out.output, HB7.out.size, HB7.out.block⟩
      have HRe : Hid (w7.drew.ownsRow (nb + 1) 34 8 vv L.length (opCells L)) := HOw7.out.drew
      rw [← HE.out] at HRe
      clear hS hHeld
      go_wp2
      go_roundw
      case rel => exact ⟨k + 1, _, by omega, rfl, by go_num, HRe, HBe⟩
      case measure => simp [intOf]; omega
    have HTg := Lib.hid (HTy.out i hi hei)
    have HUy := Lib.hid (live_of (HOka.out i hi))
    clear hei HLk
    generalize atOp l i = y at HTg HUy ⊢
    obtain ⟨ly, hly⟩ : ∃ b, liveU y = b := ⟨_, rfl⟩
    obtain ⟨lx, hlx⟩ : ∃ b, liveU x = b := ⟨_, rfl⟩
    have HLy : Hid (liveB y.dev y.seq y.stamp y.kind y.item y.qty y.level y.undos = ly) := HUy.out.trans hly
    have HLx : Hid (liveB x.dev x.seq x.stamp x.kind x.item x.qty x.level x.undos = lx) := HUx.out.trans hlx
    rw [hly, hlx] at HTg
    clear hly hlx
    obtain ⟨tb, hbq⟩ : ∃ b, (ly != lx) = b := ⟨_, rfl⟩
    rw [hbq] at HTg
    have hbx : (ly == lx) = !tb := by rw [← hbq]; cases ly <;> cases lx <;> rfl
    unfold opVal
    go_upto_region 9 with fail
    have hb7 : Below w6.heap.size w6 (w6.alloc (.cells #[.int .i64 y.dev, .int .i64 y.seq, .int .i64 y.stamp, .int .i64 y.kind, .string y.item, .int .i64 y.qty, .int .i64 y.level, .int .i64 y.undos] 34)) := (Below.refl _ _).alloc (Nat.le_refl _) _
    have HZo := Lib.hid (boxAt (Below.refl _ (w6.alloc (.cells #[.int .i64 y.dev, .int .i64 y.seq, .int .i64 y.stamp, .int .i64 y.kind, .string y.item, .int .i64 y.qty, .int .i64 y.level, .int .i64 y.undos] 34))))
    have HOw7 := Lib.hid (own_row_kept HOw6.out hb7)
    have HXo7 := Lib.hid ((hb7.block _ (Array.getElem?_eq_some_iff.1 HXo6.out).1).trans HXo6.out)
    have HB7 := Lib.hid (HB6.out.trans (hb7.mono (by omega)))
    have hs7 := hb7.size
    generalize w6.alloc (.cells #[.int .i64 y.dev, .int .i64 y.seq, .int .i64 y.stamp, .int .i64 y.kind, .string y.item, .int .i64 y.qty, .int .i64 y.level, .int .i64 y.undos] 34) = w7 at hb7 HZo HOw7 HXo7 HB7 hs7 ⊢
    generalize w6.heap.size = zb at HZo hs7 hs6 ⊢
    clear hb7 HOw6 HXo6 HB6
    obtain ⟨d0, d1, d2, d3, d4, d5, d6, d7⟩ := op_cells HXo7.out
    obtain ⟨e0, e1, e2, e3, e4, e5, e6, e7⟩ := op_cells HZo.out
    have hS : w7.drew.cell? ⟨ob, 0, none⟩ = some (.int .i64 x.dev) ∧ w7.drew.cell? ⟨ob, 1, none⟩ = some (.int .i64 x.seq) ∧ w7.drew.cell? ⟨ob, 2, none⟩ = some (.int .i64 x.stamp) ∧ w7.drew.cell? ⟨ob, 3, none⟩ = some (.int .i64 x.kind) ∧ w7.drew.cell? ⟨ob, 4, none⟩ = some (.string x.item) ∧ w7.drew.cell? ⟨ob, 5, none⟩ = some (.int .i64 x.qty) ∧ w7.drew.cell? ⟨ob, 6, none⟩ = some (.int .i64 x.level) ∧ w7.drew.cell? ⟨ob, 7, none⟩ = some (.int .i64 x.undos) ∧ w7.drew.cell? ⟨zb, 0, none⟩ = some (.int .i64 y.dev) ∧ w7.drew.cell? ⟨zb, 1, none⟩ = some (.int .i64 y.seq) ∧ w7.drew.cell? ⟨zb, 2, none⟩ = some (.int .i64 y.stamp) ∧ w7.drew.cell? ⟨zb, 3, none⟩ = some (.int .i64 y.kind) ∧ w7.drew.cell? ⟨zb, 4, none⟩ = some (.string y.item) ∧ w7.drew.cell? ⟨zb, 5, none⟩ = some (.int .i64 y.qty) ∧ w7.drew.cell? ⟨zb, 6, none⟩ = some (.int .i64 y.level) ∧ w7.drew.cell? ⟨zb, 7, none⟩ = some (.int .i64 y.undos) := ⟨d0, d1, d2, d3, d4, d5, d6, d7, e0, e1, e2, e3, e4, e5, e6, e7⟩
    go_wp2_with fail
    refine wp_region_held_drew (S := fun w' => w'.cell? ⟨ob, 0, none⟩ = some (.int .i64 x.dev) ∧ w'.cell? ⟨ob, 1, none⟩ = some (.int .i64 x.seq) ∧ w'.cell? ⟨ob, 2, none⟩ = some (.int .i64 x.stamp) ∧ w'.cell? ⟨ob, 3, none⟩ = some (.int .i64 x.kind) ∧ w'.cell? ⟨ob, 4, none⟩ = some (.string x.item) ∧ w'.cell? ⟨ob, 5, none⟩ = some (.int .i64 x.qty) ∧ w'.cell? ⟨ob, 6, none⟩ = some (.int .i64 x.level) ∧ w'.cell? ⟨ob, 7, none⟩ = some (.int .i64 x.undos) ∧ w'.cell? ⟨zb, 0, none⟩ = some (.int .i64 y.dev) ∧ w'.cell? ⟨zb, 1, none⟩ = some (.int .i64 y.seq) ∧ w'.cell? ⟨zb, 2, none⟩ = some (.int .i64 y.stamp) ∧ w'.cell? ⟨zb, 3, none⟩ = some (.int .i64 y.kind) ∧ w'.cell? ⟨zb, 4, none⟩ = some (.string y.item) ∧ w'.cell? ⟨zb, 5, none⟩ = some (.int .i64 y.qty) ∧ w'.cell? ⟨zb, 6, none⟩ = some (.int .i64 y.level) ∧ w'.cell? ⟨zb, 7, none⟩ = some (.int .i64 y.undos)) (by kernel_rfl) hS (fun hHeld => ?_)
    refine wpAnyH_take (i := 0) (oi := { dst := some 35, op := .move (.tmp 10), type := 4, pos := "l07_deltas.go:112", after := #[], guard := none }) (v := ?_) rfl (by kernel_rfl) (by kernel_rfl) (by kernel_rfl) (fun _ _ _ h => h) (Or.inl ⟨by rfl, ?_⟩) (by assumption) ?_
    rotate_left
    · intro w hSw
      (try dsimp only at hSw)
      first | (go_simp; done) | (go_simp; with_reducible rfl)
    (try simp only [Act.put, List.setIfInBounds_toArray, List.set_cons_zero, List.set_cons_succ])
    refine wpAnyH_take (i := 1) (oi := { dst := some 36, op := .move (.tmp 35), type := 4, pos := "l07_deltas.go:112", after := #[⟨0, .data⟩], guard := none }) (v := ?_) rfl (by kernel_rfl) (by kernel_rfl) (by kernel_rfl) (fun _ _ _ h => h) (Or.inl ⟨by rfl, ?_⟩) (by assumption) ?_
    rotate_left
    · intro w hSw
      (try dsimp only at hSw)
      first | (go_simp; done) | (go_simp; with_reducible rfl)
    (try simp only [Act.put, List.setIfInBounds_toArray, List.set_cons_zero, List.set_cons_succ])
    refine wpAnyH_take (i := 2) (oi := { dst := some 37, op := .load 34 (.tmp 9), type := 34, pos := "l07_deltas.go:112", after := #[⟨1, .guard⟩], guard := some (1, true) }) (v := ?_) rfl (by kernel_rfl) (by kernel_rfl) (by kernel_rfl) (fun _ _ _ h => h) (Or.inl ⟨by rfl, ?_⟩) (by assumption) ?_
    rotate_left
    · intro w hSw
      (try dsimp only at hSw)
      first | (go_simp; done) | (go_simp; with_reducible rfl)
    (try simp only [Act.put, List.setIfInBounds_toArray, List.set_cons_zero, List.set_cons_succ])
    refine wpAnyH_take (i := 4) (oi := { dst := some 39, op := .load 34 (.tmp 8), type := 34, pos := "l07_deltas.go:112", after := #[⟨1, .guard⟩], guard := some (1, true) }) (v := ?_) rfl (by kernel_rfl) (by kernel_rfl) (by kernel_rfl) (fun _ _ _ h => h) (Or.inl ⟨by rfl, ?_⟩) (by assumption) ?_
    rotate_left
    · intro w hSw
      (try dsimp only at hSw)
      first | (go_simp; done) | (go_simp; with_reducible rfl)
    (try simp only [Act.put, List.setIfInBounds_toArray, List.set_cons_zero, List.set_cons_succ])
    refine wpAnyH_ready (rs := [3]) (by kernel_rfl) (by simp) ?_
    refine AllReadyH.cons (o := { dst := some 38, op := .call { callee := .value (.func 27), args := #[.tmp 37], argTypes := #[34] }, type := 4, pos := "l07_deltas.go:112", after := #[⟨2, .data⟩, ⟨1, .chain⟩, ⟨1, .guard⟩], guard := some (1, true) }) rfl (fun K hK => ?_) AllReadyH.nil
    go_simp
    go_at_call 27
    refine (implLive y.dev y.seq y.stamp y.kind y.item y.qty y.level y.undos _).mono ?_
    rintro e z1 ⟨rfl, hbz1⟩
    rw [HLy.out]
    have hSz1 : z1.cell? ⟨ob, 0, none⟩ = some (.int .i64 x.dev) ∧ z1.cell? ⟨ob, 1, none⟩ = some (.int .i64 x.seq) ∧ z1.cell? ⟨ob, 2, none⟩ = some (.int .i64 x.stamp) ∧ z1.cell? ⟨ob, 3, none⟩ = some (.int .i64 x.kind) ∧ z1.cell? ⟨ob, 4, none⟩ = some (.string x.item) ∧ z1.cell? ⟨ob, 5, none⟩ = some (.int .i64 x.qty) ∧ z1.cell? ⟨ob, 6, none⟩ = some (.int .i64 x.level) ∧ z1.cell? ⟨ob, 7, none⟩ = some (.int .i64 x.undos) ∧ z1.cell? ⟨zb, 0, none⟩ = some (.int .i64 y.dev) ∧ z1.cell? ⟨zb, 1, none⟩ = some (.int .i64 y.seq) ∧ z1.cell? ⟨zb, 2, none⟩ = some (.int .i64 y.stamp) ∧ z1.cell? ⟨zb, 3, none⟩ = some (.int .i64 y.kind) ∧ z1.cell? ⟨zb, 4, none⟩ = some (.string y.item) ∧ z1.cell? ⟨zb, 5, none⟩ = some (.int .i64 y.qty) ∧ z1.cell? ⟨zb, 6, none⟩ = some (.int .i64 y.level) ∧ z1.cell? ⟨zb, 7, none⟩ = some (.int .i64 y.undos) := by
      obtain ⟨q0, q1, q2, q3, q4, q5, q6, q7, q8, q9, q10, q11, q12, q13, q14, q15⟩ := hS
      exact ⟨(hbz1.cell (block_lt_of_cell q0)).trans q0, (hbz1.cell (block_lt_of_cell q1)).trans q1, (hbz1.cell (block_lt_of_cell q2)).trans q2, (hbz1.cell (block_lt_of_cell q3)).trans q3, (hbz1.cell (block_lt_of_cell q4)).trans q4, (hbz1.cell (block_lt_of_cell q5)).trans q5, (hbz1.cell (block_lt_of_cell q6)).trans q6, (hbz1.cell (block_lt_of_cell q7)).trans q7, (hbz1.cell (block_lt_of_cell q8)).trans q8, (hbz1.cell (block_lt_of_cell q9)).trans q9, (hbz1.cell (block_lt_of_cell q10)).trans q10, (hbz1.cell (block_lt_of_cell q11)).trans q11, (hbz1.cell (block_lt_of_cell q12)).trans q12, (hbz1.cell (block_lt_of_cell q13)).trans q13, (hbz1.cell (block_lt_of_cell q14)).trans q14, (hbz1.cell (block_lt_of_cell q15)).trans q15⟩
    refine hK.out _ _ hSz1 (fun hHeld2 => ?_)
    clear hK K
    (try simp only [Act.put, List.setIfInBounds_toArray, List.set_cons_zero, List.set_cons_succ])
    refine wpAnyH_ready (rs := [5]) (by kernel_rfl) (by simp) ?_
    refine AllReadyH.cons (o := { dst := some 40, op := .call { callee := .value (.func 27), args := #[.tmp 39], argTypes := #[34] }, type := 4, pos := "l07_deltas.go:112", after := #[⟨4, .data⟩, ⟨3, .chain⟩, ⟨1, .guard⟩], guard := some (1, true) }) rfl (fun K hK => ?_) AllReadyH.nil
    go_simp
    go_at_call 27
    refine (implLive x.dev x.seq x.stamp x.kind x.item x.qty x.level x.undos _).mono ?_
    rintro e z2 ⟨rfl, hbz2⟩
    rw [HLx.out]
    have hSz2 : z2.cell? ⟨ob, 0, none⟩ = some (.int .i64 x.dev) ∧ z2.cell? ⟨ob, 1, none⟩ = some (.int .i64 x.seq) ∧ z2.cell? ⟨ob, 2, none⟩ = some (.int .i64 x.stamp) ∧ z2.cell? ⟨ob, 3, none⟩ = some (.int .i64 x.kind) ∧ z2.cell? ⟨ob, 4, none⟩ = some (.string x.item) ∧ z2.cell? ⟨ob, 5, none⟩ = some (.int .i64 x.qty) ∧ z2.cell? ⟨ob, 6, none⟩ = some (.int .i64 x.level) ∧ z2.cell? ⟨ob, 7, none⟩ = some (.int .i64 x.undos) ∧ z2.cell? ⟨zb, 0, none⟩ = some (.int .i64 y.dev) ∧ z2.cell? ⟨zb, 1, none⟩ = some (.int .i64 y.seq) ∧ z2.cell? ⟨zb, 2, none⟩ = some (.int .i64 y.stamp) ∧ z2.cell? ⟨zb, 3, none⟩ = some (.int .i64 y.kind) ∧ z2.cell? ⟨zb, 4, none⟩ = some (.string y.item) ∧ z2.cell? ⟨zb, 5, none⟩ = some (.int .i64 y.qty) ∧ z2.cell? ⟨zb, 6, none⟩ = some (.int .i64 y.level) ∧ z2.cell? ⟨zb, 7, none⟩ = some (.int .i64 y.undos) := by
      obtain ⟨q0, q1, q2, q3, q4, q5, q6, q7, q8, q9, q10, q11, q12, q13, q14, q15⟩ := hSz1
      exact ⟨(hbz2.cell (block_lt_of_cell q0)).trans q0, (hbz2.cell (block_lt_of_cell q1)).trans q1, (hbz2.cell (block_lt_of_cell q2)).trans q2, (hbz2.cell (block_lt_of_cell q3)).trans q3, (hbz2.cell (block_lt_of_cell q4)).trans q4, (hbz2.cell (block_lt_of_cell q5)).trans q5, (hbz2.cell (block_lt_of_cell q6)).trans q6, (hbz2.cell (block_lt_of_cell q7)).trans q7, (hbz2.cell (block_lt_of_cell q8)).trans q8, (hbz2.cell (block_lt_of_cell q9)).trans q9, (hbz2.cell (block_lt_of_cell q10)).trans q10, (hbz2.cell (block_lt_of_cell q11)).trans q11, (hbz2.cell (block_lt_of_cell q12)).trans q12, (hbz2.cell (block_lt_of_cell q13)).trans q13, (hbz2.cell (block_lt_of_cell q14)).trans q14, (hbz2.cell (block_lt_of_cell q15)).trans q15⟩
    refine hK.out _ _ hSz2 (fun hHeld3 => ?_)
    clear hK K
    (try simp only [Act.put, List.setIfInBounds_toArray, List.set_cons_zero, List.set_cons_succ])
    refine wpAnyH_take (i := 6) (oi := { dst := some 41, op := .binOp .neq 4 (.tmp 38) (.tmp 40) 4, type := 4, pos := "l07_deltas.go:112", after := #[⟨3, .data⟩, ⟨5, .data⟩, ⟨1, .guard⟩], guard := some (1, true) }) (v := ?_) rfl (by kernel_rfl) (by kernel_rfl) (by kernel_rfl) (fun _ _ _ h => h) (Or.inl ⟨by rfl, ?_⟩) (by assumption) ?_
    rotate_left
    · intro w hSw
      (try dsimp only at hSw)
      first | (go_simp; done) | (go_simp; with_reducible rfl)
    (try simp only [Act.put, List.setIfInBounds_toArray, List.set_cons_zero, List.set_cons_succ])
    refine wpAnyH_take (i := 7) (oi := { dst := some 42, op := .pick (.tmp 36) (.tmp 41) (.const (Value.bool false)), type := 4, pos := "l07_deltas.go:112", after := #[⟨1, .data⟩, ⟨6, .data⟩], guard := none }) (v := ?_) rfl (by kernel_rfl) (by kernel_rfl) (by kernel_rfl) (fun _ _ _ h => h) (Or.inl ⟨by rfl, ?_⟩) (by assumption) ?_
    rotate_left
    · intro w hSw
      (try dsimp only at hSw)
      first | (go_simp; done) | (go_simp; with_reducible rfl)
    (try simp only [Act.put, List.setIfInBounds_toArray, List.set_cons_zero, List.set_cons_succ])
    refine wpAnyH_done (by kernel_rfl) ?_ _
    have hc1 : Below w7.heap.size w7 z1 := Below.mk hbz1.os hbz1.tape hbz1.output hbz1.size hbz1.block
    have hc2 : Below w7.heap.size w7 z2 := hc1.trans (hbz2.mono hc1.size)
    have HBe := Lib.hid (HB7.out.trans (hc2.mono (by omega)))
    have HRe := Lib.hid (own_row_kept HOw7.out hc2)
    obtain ⟨q0, q1, q2, q3, q4, q5, q6, q7, q8, q9, q10, q11, q12, q13, q14, q15⟩ := hSz2
    have hsy : w4.heap.size ≤ z2.heap.size := by have := hc2.size; omega
    clear hS hSz1 hHeld hHeld2 hHeld3 hbz1 hbz2 hc1 hc2 d0 d1 d2 d3 d4 d5 d6 d7 e0 e1 e2 e3 e4 e5 e6 e7
    cases tb
    · have HE : Hid ((m.take (k + 1)).filter (togB l) = L) := by show _ = _; rw [HSt.out, HTg.out]; rfl
      rw [← HE.out] at HRe
      clear q0 q1 q2 q3 q4 q5 q6 q7 q8 q9 q10 q11 q12 q13 q14 q15
      go_wp2
      go_roundw
      case rel => exact ⟨k + 1, _, by omega, rfl, by go_num, HRe, HBe⟩
      case measure => simp [intOf]; omega
    have HE : Hid ((m.take (k + 1)).filter (togB l) = L ++ [x]) := by show _ = _; rw [HSt.out, HTg.out]; rfl
    have hown1 := HRe.out.alloc (.cells #[.int .i64 x.dev, .int .i64 x.seq, .int .i64 x.stamp, .int .i64 x.kind, .string x.item, .int .i64 x.qty, .int .i64 x.level, .int .i64 x.undos] 34)
    go_wp2_with (at_builtin; refine wpList_append_own _ rfl _ _ 25 rfl (nb + 1) 34 i0 (.agg #[.int .i64 0, .int .i64 0, .int .i64 0, .int .i64 0, .string ⟨#[]⟩, .int .i64 0, .int .i64 0, .int .i64 0]) 8 72 Try.underlying25 hi0' hz0 hz1 hz2 rfl (by decide) _ _ _ rfl hown1 ⟨z2.heap.size, 0, none⟩ 1 1 (opRow x) rfl ?c0 ?c1 ?c2 ?c3 ?c4 ?c5 ?_)
    case c0 => rfl
    case c1 => exact opRow_new z2 x
    case c2 =>
      intro u hu
      exact opCells_one [x] u (by show u ∈ opRow x ++ []; rw [List.append_nil]; exact hu)
    case c3 => unfold maxLen; omega
    case c4 => omega
    case c5 => simp; omega
    intro v' z3 hown2 hgrow _
    have HB2 := Lib.hid ((HBe.out.alloc (by omega) (.cells #[.int .i64 x.dev, .int .i64 x.seq, .int .i64 x.stamp, .int .i64 x.kind, .string x.item, .int .i64 x.qty, .int .i64 x.level, .int .i64 x.undos] 34)).grown hgrow (by simp; omega) (fun j hj => (hown1.lt j hj).1))
    have HR2 : Hid (z3.ownsRow (nb + 1) 34 8 v' ((m.take (k + 1)).filter (togB l)).length (opCells ((m.take (k + 1)).filter (togB l)))) := by
      show World.ownsRow _ _ _ _ _ _ _
      rw [HE.out, opCells_snoc, List.length_append]
      exact hown2
    clear hown2 hgrow hown1 HRe q0 q1 q2 q3 q4 q5 q6 q7 q8 q9 q10 q11 q12 q13 q14 q15
    go_wp2
    go_roundw
    case rel => exact ⟨k + 1, _, by omega, rfl, by go_num, HR2, HB2⟩
    case measure => simp [intOf]; omega
end Go.Proofs.Ytmceofdknphgkaa
