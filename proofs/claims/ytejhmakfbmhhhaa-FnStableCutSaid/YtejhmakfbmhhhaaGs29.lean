/- Walks and mathematics that several claims share, part 29. -/
import Derived.Test.YtejhmakfbmhhhaaGs28
import Derived.Test.YtejhmakfbmhhhaaGs21
import Derived.Deep.Cut
import Derived.Deep.RegionHeld3
namespace Go.Proofs.Ytejhmakfbmhhhaa
open Go.RowKit

theorem Two.set2 {w w1 : World} {x : Array Value} {z0 z1 : Value} {T : TypeId} (h : Two w w1 x #[z0, z1] T) (u v : Value) :
    ((w1.setCell ⟨w.heap.size + 1, 0, none⟩ u).setCell ⟨w.heap.size + 1, 1, none⟩ v).heap[w.heap.size + 1]? = some (.cells #[u, v] T (0, 0)) ∧ Below w.heap.size w ((w1.setCell ⟨w.heap.size + 1, 0, none⟩ u).setCell ⟨w.heap.size + 1, 1, none⟩ v) :=
  ⟨pair_set _ _ h.snd, (h.bel.setCell (by show _ ≤ w.heap.size + 1; omega) _).setCell (by show _ ≤ w.heap.size + 1; omega) _⟩
theorem cut_no {xs : List Int} {l : List OpV} {v : List Int} (h : cartB xs l = false) : cutB xs l v = false := by unfold cutB; rw [h]; rfl
theorem cut_no2 {xs : List Int} {l : List OpV} {v : List Int} (h : vecOk v = false) : cutB xs l v = false := by unfold cutB; rw [h, Bool.and_false]
theorem cut_yes {xs : List Int} {l : List OpV} {v : List Int} (h : cartB xs l = true) (h2 : vecOk v = true) : cutB xs l v = true := by unfold cutB; rw [h, h2]; rfl
set_option linter.unusedSimpArgs false in
set_option maxRecDepth 100000 in
set_option maxHeartbeats 80000000 in
theorem implCut (w : World) (B : Nat) (av ao bv : Option Addr) (nv cv no co mv dv : Nat) (xs : List Int) (l : List OpV) (ys : List Int) (hx : Ints w B av nv xs) (h : Ops w B ao no l) (hy : Ints w B bv mv ys) (hB : B ≤ w.heap.size) (hv : nv ≤ 1048576) (hc : no ≤ co) (hc2 : Fits no co) (hm : ∀ i, i < no → (atOp l i).item.size ≤ 1048576) (hv2 : mv ≤ 1048576) :
    Calls Try.prog 19 #[.agg #[.slice av nv cv, .slice ao no co], .slice bv mv dv] w (CartPostK (cutB xs l ys) (cutVs xs ys (cutB xs l ys)) (cutOs l ys (cutB xs l ys)) w) := by
  have hT := Two.mk0 w #[.slice av nv cv, .slice ao no co] #[.slice none 0 0, .slice none 0 0] 31
  have HV := Lib.hid (hx.below hT.bel hB)
  have HO := Lib.hid (h.below hT.bel hB)
  have HY := Lib.hid (hy.below hT.bel hB)
  have HT := Lib.hid hT
  have HLx := Lib.hid hx.1
  have HL := Lib.hid h.1
  have HLy := Lib.hid hy.1
  have HM := Lib.hid hm
  have hBw := hB
  have hn : no ≤ 1048576 := hc2.1
  have HF := Lib.hid hc2
  obtain ⟨R, hR⟩ : ∃ R, cutB xs l ys = R := ⟨_, rfl⟩
  have HR := Lib.hid hR
  clear hx h hy hT hm hB hc2
  rw [hR]
  clear hR
  go_enter Try.func19, Try.ntmps19
  go_wp2_with fail
  generalize (w.alloc (.cells #[.slice av nv cv, .slice ao no co] 31)).alloc (.cells #[.slice none 0 0, .slice none 0 0] 31) = w0 at HV HO HY HT ⊢
  have hsz0 := HT.out.bel.size
  have hsz1 := lt_of_row HT.out.snd
  refine (implCartOk w0 B av ao nv cv no co xs l HV.out HO.out (by omega) hv hc HF.out).mono ?_
  rintro e w1 ⟨rfl, hb⟩
  have HV1 := Lib.hid (HV.out.below hb (by omega))
  have HO1 := Lib.hid (HO.out.below hb (by omega))
  have HY1 := Lib.hid (HY.out.below hb (by omega))
  have HT1 := Lib.hid (HT.out.next hb)
  have hs1 := hb.size
  clear hb HV HO HY HT
  obtain ⟨ca, hca⟩ : ∃ b, cartB xs l = b := ⟨_, rfl⟩
  have HCa := Lib.hid hca
  rw [hca]
  clear hca
  cases ca
  · skip
    obtain rfl : R = false := by rw [← HR.out]; exact cut_no HCa.out
    obtain ⟨r0, r1⟩ := pair_cells HT1.out.snd
    obtain ⟨fz0, fz1⟩ := pair_frozen HT1.out.snd
    have HXr := Lib.hid (HT1.out.set2 (.slice none 0 0) (.slice none 0 0)).1
    have HBr2 := Lib.hid (HT1.out.set2 (.slice none 0 0) (.slice none 0 0)).2
    go_wp2
    change bodyPost _ _ _ _ _ ((w1.setCell ⟨w.heap.size + 1, 0, none⟩ (.slice none 0 0)).setCell ⟨w.heap.size + 1, 1, none⟩ (.slice none 0 0))
    generalize (w1.setCell ⟨w.heap.size + 1, 0, none⟩ (.slice none 0 0)).setCell ⟨w.heap.size + 1, 1, none⟩ (.slice none 0 0) = wf at HXr HBr2 ⊢
    obtain ⟨q0, q1⟩ := pair_cells HXr.out
    have hsf := HBr2.out.size
    exact bodyPost_ret (v := .tuple #[.agg #[.slice none 0 0, .slice none 0 0], .bool false]) (by simp [results, Try.results19, go_sem, q0, q1]) rfl ⟨none, 0, none, 0, w.heap.size, rfl, own_nil _ _ _ _, own_none _ _ _ _, Nat.le_refl _, hsf, HBr2.out, caps_nil⟩
  go_wp2_with fail
  refine (implVecOk w1 B bv mv dv ys HY1.out hv2).mono ?_
  rintro e w2 ⟨rfl, rfl⟩
  obtain ⟨cb, hcb⟩ : ∃ b, vecOk ys = b := ⟨_, rfl⟩
  have HCb := Lib.hid hcb
  rw [hcb]
  clear hcb
  cases cb
  · skip
    obtain rfl : R = false := by rw [← HR.out]; exact cut_no2 HCb.out
    obtain ⟨r0, r1⟩ := pair_cells HT1.out.snd
    obtain ⟨fz0, fz1⟩ := pair_frozen HT1.out.snd
    have HXr := Lib.hid (HT1.out.set2 (.slice none 0 0) (.slice none 0 0)).1
    have HBr2 := Lib.hid (HT1.out.set2 (.slice none 0 0) (.slice none 0 0)).2
    go_wp2
    change bodyPost _ _ _ _ _ ((w1.setCell ⟨w.heap.size + 1, 0, none⟩ (.slice none 0 0)).setCell ⟨w.heap.size + 1, 1, none⟩ (.slice none 0 0))
    generalize (w1.setCell ⟨w.heap.size + 1, 0, none⟩ (.slice none 0 0)).setCell ⟨w.heap.size + 1, 1, none⟩ (.slice none 0 0) = wf at HXr HBr2 ⊢
    obtain ⟨q0, q1⟩ := pair_cells HXr.out
    have hsf := HBr2.out.size
    exact bodyPost_ret (v := .tuple #[.agg #[.slice none 0 0, .slice none 0 0], .bool false]) (by simp [results, Try.results19, go_sem, q0, q1]) rfl ⟨none, 0, none, 0, w.heap.size, rfl, own_nil _ _ _ _, own_none _ _ _ _, Nat.le_refl _, hsf, HBr2.out, caps_nil⟩
  obtain rfl : R = true := by rw [← HR.out]; exact cut_yes HCa.out HCb.out
  have hy4 : ys.length = 4 := (vec_at HCb.out (d := 0) (by omega)).2.2
  obtain rfl : mv = 4 := by rw [← HLy.out]; exact hy4
  obtain ⟨yb, yo, rfl, -, -⟩ := HY1.out.2 0 (by omega)
  clear hy4
  obtain ⟨a0, a1⟩ := pair_cells HT1.out.fst
  go_wp2
  go_loopw [6, 21] (fun v i wr => ∃ (k : Nat) (vv : Value), k ≤ no ∧ vv = v ∧ i = .int .i64 (k : Int) ∧ Hid (wr.ownsRow w1.heap.size 80 8 v ((l.take k).filter (cutP ys)).length (opCells ((l.take k).filter (cutP ys)))) ∧ Hid (Below w1.heap.size w1 wr) ∧ Hid (((l.take k).filter (cutP ys)).length = 0 → vv = .slice none 0 0)) (fun _ i _ => no - (intOf i).toNat)
  case atStart => exact ⟨0, _, Nat.zero_le _, rfl, rfl, World.ownsRow_nil _ _ _ _, Below.refl _ _, fun _ => rfl⟩
  case round =>
    obtain ⟨k, vv, hk, hvv, rfl, HRw, HBr, HNz⟩ := hrel
    subst hvv
    clear a0 a1
    have hsr := HBr.out.size
    by_cases hlt : k < no
    rotate_left
    · obtain rfl : no = k := by omega
      have HTk : Hid (l.take no = l) := by show _ = _; rw [← HL.out]; exact List.take_length
      rw [HTk.out] at HRw HNz
      have HIt := Lib.hid (cut_items (q := cutP ys) (m := l) (N := 1048576) (fun i hi => HM.out i (by rw [← HL.out]; exact hi)))
      have hlenL : (l.filter (cutP ys)).length ≤ 1048576 := by have := List.length_filter_le (cutP ys) l; have := HL.out; omega
      have HE : Hid (cutOs l ys true = l.filter (cutP ys)) := by show _ = _; rfl
      have HZ : Hid (cutVs xs ys true = zipI min xs ys) := by show _ = _; rfl
      have HZ2 : Hid (vecZip min xs ys = zipI min xs ys) := by show _ = _; exact vecZip_yes (by rw [(cart_true HCa.out).1, HCb.out]; rfl)
      generalize l.filter (cutP ys) = L at HRw HNz HE HIt hlenL
      have HP : Hid (∃ a c, vv = .slice a L.length c ∧ (a = none → c = 0) ∧ (0 < L.length ∨ a = none) ∧ OwnOps wr w1.heap.size wr.heap.size a L.length L) := by
        have hr := HRw.out
        rcases hr.2 with ⟨e, e2⟩ | ⟨g, c, cur, e, r⟩
        · subst e
          rw [e2] at hr ⊢
          exact ⟨none, 0, rfl, fun _ => rfl, .inr rfl, own_of_cells hr (Nat.le_refl _)⟩
        · subst e
          have h0 : 0 < L.length := by
            rcases Nat.eq_zero_or_pos L.length with e0 | e0
            · exact absurd (HNz.out e0) (by intro h; cases h)
            · exact e0
          exact ⟨_, c, rfl, (fun h => by cases h), .inl h0, own_of_cells hr (Nat.le_refl _)⟩
      obtain ⟨ra, rc, rfl, hrc, hr0, hown⟩ := HP.out
      have HOo := Lib.hid hown
      have HRc := Lib.hid hrc
      have HR0 := Lib.hid hr0
      clear hown hrc hr0 HP HRw
      have HTr := Lib.hid (HT1.out.next HBr.out)
      have HVr := Lib.hid (HV1.out.below HBr.out (by omega))
      have HYr := Lib.hid (HY1.out.below HBr.out (by omega))
      obtain ⟨a0, a1⟩ := pair_cells HTr.out.fst
      go_wp2_with fail
      refine (implMin wr B av (some ⟨yb, yo, none⟩) nv cv 4 dv xs ys HVr.out HYr.out (by omega) hv (by omega)).mono ?_
      rintro e w3 ⟨va, vc, rfl, hov, hb3⟩
      rw [HZ2.out] at hov ⊢
      have HOv3 := Lib.hid hov
      have HOo3 := Lib.hid (HOo.out.ops.below hb3 (Nat.le_refl _))
      have HT3 := Lib.hid (HTr.out.next hb3)
      have hs3 := hb3.size
      clear hov hb3 HTr HVr HYr HOo a0 a1
      go_wp2_with fail
      refine (copiedOpsK w3 wr.heap.size ra L.length rc L HOo3.out (by omega) hlenL HRc.out HR0.out HIt.out).mono ?_
      rintro e w5 ⟨oa, oc, rfl, hcaps, hop, hb5⟩
      have HCp := Lib.hid hcaps
      have HOp5 := Lib.hid hop
      have HOv5 := Lib.hid (HOv3.out.below hb5 (Nat.le_refl _))
      have HT5 := Lib.hid (HT3.out.next hb5)
      have hs5 := hb5.size
      clear hcaps hop hb5 HT3 HOo3 HOv3
      obtain ⟨r0, r1⟩ := pair_cells HT5.out.snd
      obtain ⟨fz0, fz1⟩ := pair_frozen HT5.out.snd
      have HXr := Lib.hid (HT5.out.set2 (.slice va (zipI min xs ys).length vc) (.slice oa L.length oc)).1
      have HBr2 := Lib.hid (HT5.out.set2 (.slice va (zipI min xs ys).length vc) (.slice oa L.length oc)).2
      have HOv7 : Hid (Own ((w5.setCell ⟨w.heap.size + 1, 0, none⟩ (.slice va (zipI min xs ys).length vc)).setCell ⟨w.heap.size + 1, 1, none⟩ (.slice oa L.length oc)) wr.heap.size w3.heap.size va (zipI min xs ys).length (zipI min xs ys)) := HOv5.out.kept fun q h1 h2 => pair_other _ _ (by omega)
      have HOp7 : Hid (OwnOps ((w5.setCell ⟨w.heap.size + 1, 0, none⟩ (.slice va (zipI min xs ys).length vc)).setCell ⟨w.heap.size + 1, 1, none⟩ (.slice oa L.length oc)) w3.heap.size w5.heap.size oa L.length L) := HOp5.out.kept fun q h1 h2 => pair_other _ _ (by omega)
      have hsz7 : ((w5.setCell ⟨w.heap.size + 1, 0, none⟩ (.slice va (zipI min xs ys).length vc)).setCell ⟨w.heap.size + 1, 1, none⟩ (.slice oa L.length oc)).heap.size = w5.heap.size := pair_size _ _ _ _
      go_wp2
      change bodyPost _ _ _ _ _ ((w5.setCell ⟨w.heap.size + 1, 0, none⟩ (.slice va (zipI min xs ys).length vc)).setCell ⟨w.heap.size + 1, 1, none⟩ (.slice oa L.length oc))
      generalize (w5.setCell ⟨w.heap.size + 1, 0, none⟩ (.slice va (zipI min xs ys).length vc)).setCell ⟨w.heap.size + 1, 1, none⟩ (.slice oa L.length oc) = wf at HXr HBr2 HOv7 HOp7 hsz7 ⊢
      obtain ⟨q0, q1⟩ := pair_cells HXr.out
      rw [HE.out, HZ.out]
      exact bodyPost_ret (v := .tuple #[.agg #[.slice va (zipI min xs ys).length vc, .slice oa L.length oc], .bool true]) (by simp [results, Try.results19, go_sem, q0, q1]) rfl ⟨va, vc, oa, oc, w3.heap.size, rfl, HOv7.out.more (by omega) (Nat.le_refl _), HOp7.out.more (Nat.le_refl _) (by omega), by omega, by omega, HBr2.out, HCp.out⟩
    have HSt := Lib.hid (filt_step (q := cutP ys) (l := l) (k := k) (by rw [HL.out]; exact hlt))
    have HOr := Lib.hid (HO1.out.below HBr.out (by omega))
    have HYr := Lib.hid (HY1.out.below HBr.out (by omega))
    obtain ⟨b, off, rfl, hb, ho⟩ := HOr.out.2 k hlt
    have HOk : Hid (OpAt wr b (off + k * 8) (atOp l k)) := ho
    have hlen : ((l.take k).filter (cutP ys)).length ≤ 1048576 := by
      have := List.length_filter_le (cutP ys) (l.take k)
      have := List.length_take_le k l
      omega
    have hdev : 0 ≤ (atOp l k).dev ∧ (atOp l k).dev < 4 := by
      obtain ⟨d, hd, _, _, _, e, _⟩ := cart_at HCa.out (i := k) (by rw [HL.out]; exact hlt)
      rw [e]
      omega
    have HYc : Hid (∃ Y, cutP ys (atOp l k) = decide ((atOp l k).seq ≤ Y) ∧ wr.cell? ⟨yb, yo + (atOp l k).dev.toNat, none⟩ = some (.int .i64 Y)) := by
      obtain ⟨b', off', e, _, hcell⟩ := HYr.out.2 (atOp l k).dev.toNat (by omega)
      cases e
      exact ⟨_, rfl, hcell⟩
    obtain ⟨Y, hP, hYc⟩ := HYc.out
    have HPx := Lib.hid hP
    clear ho HOr hP HYc
    generalize (l.take k).filter (cutP ys) = L at HRw HNz HSt hlen
    generalize atOp l k = x at HOk HSt HPx hYc hdev
    obtain ⟨d0, d1, d2, d3, d4, d5, d6, d7⟩ := HOk.out
    have hki : (k : Int) < (no : Int) := by omega
    obtain ⟨hd0, hd4⟩ := hdev
    have hyb := block_lt_of_cell hYc
    go_upto_region 7 with fail
    have hb5 : Below wr.heap.size wr (wr.alloc (.cells #[.int .i64 x.dev, .int .i64 x.seq, .int .i64 x.stamp, .int .i64 x.kind, .string x.item, .int .i64 x.qty, .int .i64 x.level, .int .i64 x.undos] 80)) := (Below.refl _ _).alloc (Nat.le_refl _) _
    have HXo := Lib.hid (boxAt (Below.refl _ (wr.alloc (.cells #[.int .i64 x.dev, .int .i64 x.seq, .int .i64 x.stamp, .int .i64 x.kind, .string x.item, .int .i64 x.qty, .int .i64 x.level, .int .i64 x.undos] 80))))
    have HOw5 := Lib.hid (own_row_kept HRw.out hb5)
    have HY5 : Hid ((wr.alloc (.cells #[.int .i64 x.dev, .int .i64 x.seq, .int .i64 x.stamp, .int .i64 x.kind, .string x.item, .int .i64 x.qty, .int .i64 x.level, .int .i64 x.undos] 80)).cell? ⟨yb, yo + x.dev.toNat, none⟩ = some (.int .i64 Y)) := (hb5.cell hyb).trans hYc
    have HB5 := Lib.hid (HBr.out.trans (hb5.mono (by omega)))
    have hs5 := hb5.size
    generalize wr.alloc (.cells #[.int .i64 x.dev, .int .i64 x.seq, .int .i64 x.stamp, .int .i64 x.kind, .string x.item, .int .i64 x.qty, .int .i64 x.level, .int .i64 x.undos] 80) = w5 at hb5 HXo HOw5 HY5 HB5 hs5 ⊢
    generalize wr.heap.size = ob at HXo hs5 hsr ⊢
    clear hb5 HRw HYr HOk d0 d1 d2 d3 d4 d5 d6 d7 HBr hYc hyb
    have hobl := lt_of_row HXo.out
    obtain ⟨d0, d1, d2, d3, d4, d5, d6, d7⟩ := op_cells HXo.out
    have hyc := HY5.out
    have hd00 : ¬ (x.dev < 0) := by omega
    have hd0d : decide (x.dev < 0) = false := decide_eq_false (by omega)
    have hd4n : x.dev.toNat < 4 := by omega
    have hS : w5.drew.cell? ⟨ob, 0, none⟩ = some (.int .i64 x.dev) ∧ w5.drew.cell? ⟨ob, 1, none⟩ = some (.int .i64 x.seq) ∧ w5.drew.cell? ⟨yb, yo + x.dev.toNat, none⟩ = some (.int .i64 Y) := ⟨d0, d1, hyc⟩
    go_wp2_with fail
    refine wp_region_held_drew (S := fun w' => w'.cell? ⟨ob, 0, none⟩ = some (.int .i64 x.dev) ∧ w'.cell? ⟨ob, 1, none⟩ = some (.int .i64 x.seq) ∧ w'.cell? ⟨yb, yo + x.dev.toNat, none⟩ = some (.int .i64 Y)) (by kernel_rfl) hS (fun hHeld => ?_)
    refine wpAnyH_take (i := 0) (oi := { dst := some 25, op := .fieldAddr 80 (.tmp 8) 1, type := 0, pos := "l13_stable.go:74", after := #[], guard := none }) (v := ?_) rfl (by kernel_rfl) (by kernel_rfl) (by kernel_rfl) (fun _ _ _ h => h) (Or.inl ⟨by rfl, ?_⟩) (by assumption) ?_
    rotate_left
    · intro w hSw
      (try dsimp only at hSw)
      first | (go_simp; done) | (go_simp; with_reducible rfl)
    (try simp only [Act.put, List.setIfInBounds_toArray, List.set_cons_zero, List.set_cons_succ])
    refine wpAnyH_take (i := 1) (oi := { dst := some 26, op := .load 2 (.tmp 25), type := 2, pos := "l13_stable.go:74", after := #[⟨0, .data⟩], guard := none }) (v := ?_) rfl (by kernel_rfl) (by kernel_rfl) (by kernel_rfl) (fun _ _ _ h => h) (Or.inl ⟨by rfl, ?_⟩) (by assumption) ?_
    rotate_left
    · intro w hSw
      (try dsimp only at hSw)
      first | (go_simp; done) | (go_simp; with_reducible rfl)
    (try simp only [Act.put, List.setIfInBounds_toArray, List.set_cons_zero, List.set_cons_succ])
    refine wpAnyH_take (i := 2) (oi := { dst := some 27, op := .move (.tmp 1), type := 28, pos := "l13_stable.go:74", after := #[], guard := none }) (v := ?_) rfl (by kernel_rfl) (by kernel_rfl) (by kernel_rfl) (fun _ _ _ h => h) (Or.inl ⟨by rfl, ?_⟩) (by assumption) ?_
    rotate_left
    · intro w hSw
      (try dsimp only at hSw)
      first | (go_simp; done) | (go_simp; with_reducible rfl)
    (try simp only [Act.put, List.setIfInBounds_toArray, List.set_cons_zero, List.set_cons_succ])
    refine wpAnyH_take (i := 3) (oi := { dst := some 28, op := .fieldAddr 80 (.tmp 8) 0, type := 0, pos := "l13_stable.go:74", after := #[], guard := none }) (v := ?_) rfl (by kernel_rfl) (by kernel_rfl) (by kernel_rfl) (fun _ _ _ h => h) (Or.inl ⟨by rfl, ?_⟩) (by assumption) ?_
    rotate_left
    · intro w hSw
      (try dsimp only at hSw)
      first | (go_simp; done) | (go_simp; with_reducible rfl)
    (try simp only [Act.put, List.setIfInBounds_toArray, List.set_cons_zero, List.set_cons_succ])
    refine wpAnyH_take (i := 4) (oi := { dst := some 29, op := .load 2 (.tmp 28), type := 2, pos := "l13_stable.go:74", after := #[⟨3, .data⟩], guard := none }) (v := ?_) rfl (by kernel_rfl) (by kernel_rfl) (by kernel_rfl) (fun _ _ _ h => h) (Or.inl ⟨by rfl, ?_⟩) (by assumption) ?_
    rotate_left
    · intro w hSw
      (try dsimp only at hSw)
      first | (go_simp; done) | (go_simp; with_reducible rfl)
    (try simp only [Act.put, List.setIfInBounds_toArray, List.set_cons_zero, List.set_cons_succ])
    refine wpAnyH_take (i := 5) (oi := { dst := some 30, op := .indexAddr 28 (.tmp 27) (.tmp 29), type := 0, pos := "l13_stable.go:74", after := #[⟨2, .data⟩, ⟨4, .data⟩], guard := none }) (v := ?_) rfl (by kernel_rfl) (by kernel_rfl) (by kernel_rfl) (fun _ _ _ h => h) (Or.inl ⟨by rfl, ?_⟩) (by assumption) ?_
    rotate_left
    · intro w hSw
      (try dsimp only at hSw)
      first | (go_simp; done) | (go_simp; with_reducible rfl)
    (try simp only [Act.put, List.setIfInBounds_toArray, List.set_cons_zero, List.set_cons_succ])
    refine wpAnyH_take (i := 6) (oi := { dst := some 31, op := .load 2 (.tmp 30), type := 2, pos := "l13_stable.go:74", after := #[⟨5, .data⟩], guard := none }) (v := ?_) rfl (by kernel_rfl) (by kernel_rfl) (by kernel_rfl) (fun _ _ _ h => h) (Or.inl ⟨by rfl, ?_⟩) (by assumption) ?_
    rotate_left
    · intro w hSw
      (try dsimp only at hSw)
      first | (go_simp; done) | (go_simp; with_reducible rfl)
    (try simp only [Act.put, List.setIfInBounds_toArray, List.set_cons_zero, List.set_cons_succ])
    refine wpAnyH_take (i := 7) (oi := { dst := some 32, op := .binOp .leq 2 (.tmp 26) (.tmp 31) 2, type := 4, pos := "l13_stable.go:74", after := #[⟨1, .data⟩, ⟨6, .data⟩], guard := none }) (v := ?_) rfl (by kernel_rfl) (by kernel_rfl) (by kernel_rfl) (fun _ _ _ h => h) (Or.inl ⟨by rfl, ?_⟩) (by assumption) ?_
    rotate_left
    · intro w hSw
      (try dsimp only at hSw)
      first | (go_simp; done) | (go_simp; with_reducible rfl)
    (try simp only [Act.put, List.setIfInBounds_toArray, List.set_cons_zero, List.set_cons_succ])
    refine wpAnyH_done (by kernel_rfl) ?_ _
    clear hS hHeld hyc HY5
    have HOw6 : Hid (w5.drew.ownsRow w1.heap.size 80 8 vv L.length (opCells L)) := HOw5.out.drew
    have HXo6 : Hid (w5.drew.heap[ob]? = some (.cells #[.int .i64 x.dev, .int .i64 x.seq, .int .i64 x.stamp, .int .i64 x.kind, .string x.item, .int .i64 x.qty, .int .i64 x.level, .int .i64 x.undos] 80 (0, 0))) := HXo.out
    have HB6 : Hid (Below w1.heap.size w1 w5.drew) := HB5.out.drew
    have hs6 : ob ≤ w5.drew.heap.size := hs5
    clear d0 d1 d2 d3 d4 d5 d6 d7 HOw5 HXo HB5 hs5 hobl
    generalize w5.drew = w6 at HOw6 HXo6 HB6 hs6 ⊢
    obtain ⟨d0, d1, d2, d3, d4, d5, d6, d7⟩ := op_cells HXo6.out
    obtain ⟨tb, htb⟩ : ∃ b, decide (x.seq ≤ Y) = b := ⟨_, rfl⟩
    rw [htb] at HPx
    have HTb := Lib.hid htb
    clear htb
    cases tb
    · have HE : Hid ((l.take (k + 1)).filter (cutP ys) = L) := by show _ = _; rw [HSt.out, HPx.out]; rfl
      have hdt := HTb.out
      have hnl : ¬ x.seq ≤ Y := of_decide_eq_false hdt
      have HRe := HOw6
      have HNe := HNz
      rw [← HE.out] at HRe HNe
      go_wp2
      go_roundw
      case rel => exact ⟨k + 1, _, by omega, rfl, by go_num, HRe, HB6, HNe⟩
      case measure => simp [intOf]; omega
    have HE : Hid ((l.take (k + 1)).filter (cutP ys) = L ++ [x]) := by show _ = _; rw [HSt.out, HPx.out]; rfl
    have hdt := HTb.out
    have hyl : x.seq ≤ Y := of_decide_eq_true hdt
    have hsw : w1.heap.size ≤ w6.heap.size := HB6.out.size
    obtain ⟨i0, hi0', hz0, hz1, hz2⟩ := info_parts Try.infoOp
    have hown1 := HOw6.out.alloc (.cells #[.int .i64 x.dev, .int .i64 x.seq, .int .i64 x.stamp, .int .i64 x.kind, .string x.item, .int .i64 x.qty, .int .i64 x.level, .int .i64 x.undos] 80)
    go_wp2_with (at_builtin; refine wpList_append_own _ rfl _ _ 29 rfl w1.heap.size 80 i0 (.agg #[.int .i64 0, .int .i64 0, .int .i64 0, .int .i64 0, .string ⟨#[]⟩, .int .i64 0, .int .i64 0, .int .i64 0]) 8 72 Try.underlying29 hi0' hz0 hz1 hz2 rfl (by decide) _ _ _ rfl hown1 ⟨w6.heap.size, 0, none⟩ 1 1 (opRow x) rfl ?c0 ?c1 ?c2 ?c3 ?c4 ?c5 ?_)
    case c0 => rfl
    case c1 => exact opRow_new w6 x
    case c2 =>
      intro u hu
      exact opCells_one [x] u (by show u ∈ opRow x ++ []; rw [List.append_nil]; exact hu)
    case c3 => unfold maxLen; omega
    case c4 => omega
    case c5 => simp; omega
    intro v' z3 hown2 hgrow _
    have HB2 := Lib.hid ((HB6.out.alloc (by omega) (.cells #[.int .i64 x.dev, .int .i64 x.seq, .int .i64 x.stamp, .int .i64 x.kind, .string x.item, .int .i64 x.qty, .int .i64 x.level, .int .i64 x.undos] 80)).grown hgrow (by simp; omega) (fun j hj => (hown1.lt j hj).1))
    have HR2 : Hid (z3.ownsRow w1.heap.size 80 8 v' ((l.take (k + 1)).filter (cutP ys)).length (opCells ((l.take (k + 1)).filter (cutP ys)))) := by
      show World.ownsRow _ _ _ _ _ _ _
      rw [HE.out, opCells_snoc, List.length_append]
      exact hown2
    have HN2 : Hid (((l.take (k + 1)).filter (cutP ys)).length = 0 → v' = .slice none 0 0) := fun h => by
      rw [HE.out, List.length_append] at h
      exact absurd h (by simp)
    clear hown2 hgrow hown1 HOw6 d0 d1 d2 d3 d4 d5 d6 d7
    go_wp2
    go_roundw
    case rel => exact ⟨k + 1, _, by omega, rfl, by go_num, HR2, HB2, HN2⟩
    case measure => simp [intOf]; omega
end Go.Proofs.Ytejhmakfbmhhhaa

namespace Go.Proofs.Ytejhmakfbmhhhaa
open Go.RowKit

def OutC (ob : Nat) (v : Value) (L : List OpV) (w2 wr : World) : Prop :=
  ∃ oa oc, wr.heap[ob]? = some (.cells #[v, .slice oa L.length oc] 31 (0, 0)) ∧ wr.ownsRow (ob + 1) 80 8 (.slice oa L.length oc) L.length (opCells L) ∧ Below ob w2 wr
theorem OutC.drew {ob : Nat} {v : Value} {L : List OpV} {w2 wr : World} (h : OutC ob v L w2 wr) : OutC ob v L w2 wr.drew := by
  obtain ⟨oa, oc, h1, h2, h3⟩ := h
  exact ⟨oa, oc, h1, h2.drew, ⟨h3.os, h3.tape, h3.output, h3.size, h3.block⟩⟩
end Go.Proofs.Ytejhmakfbmhhhaa
