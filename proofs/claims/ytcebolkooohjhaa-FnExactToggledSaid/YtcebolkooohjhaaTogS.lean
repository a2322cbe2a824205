/- The operations that are live in exactly one of two carts: the walk of spec.Toggled. -/
import Derived.Test.YtcebolkooohjhaaLookW
import Derived.Test.YtcebolkooohjhaaOwnB
import Derived.Deep.Cut
namespace Go.Proofs.Ytcebolkooohjhaa
open Go.RowKit

theorem own_row_kept {w w' : World} {base n : Nat} {v : Value} {xs : List Value} (h : w.ownsRow base 48 8 v n xs) (hb : Below w.heap.size w w') : w'.ownsRow base 48 8 v n xs :=
  h.kept (row := none) ⟨hb.os, hb.tape, hb.output, hb.size, fun j hj _ => hb.block j hj⟩ (by rcases v.ownBlock with _ | g; exact .inl rfl; exact .inr (fun h => by cases h))
theorem opRow_new (w : World) (x : OpV) : ∀ j u, (opRow x)[j]? = some u → (w.alloc (.cells #[.int .i64 x.dev, .int .i64 x.seq, .int .i64 x.stamp, .int .i64 x.kind, .string x.item, .int .i64 x.qty, .int .i64 x.level, .int .i64 x.undos] 48)).cell? ((⟨w.heap.size, 0, none⟩ : Addr).add j) = some u := by
  intro j u hj
  have hjl : j < 8 := by
    rcases Nat.lt_or_ge j 8 with h' | h'
    · exact h'
    · rw [List.getElem?_eq_none (by show 8 ≤ j; exact h')] at hj; cases hj
  rw [add_at, Nat.zero_add, cell_of_row _ _ _ _ _ _ (heap_alloc_new w _)]
  obtain rfl | rfl | rfl | rfl | rfl | rfl | rfl | rfl : j = 0 ∨ j = 1 ∨ j = 2 ∨ j = 3 ∨ j = 4 ∨ j = 5 ∨ j = 6 ∨ j = 7 := by omega
  all_goals exact hj
def liveU (o : OpV) : Bool := decide (o.undos % 2 = 0)
/-- Has the list another state of an operation's undos? -/
def togB (l : List OpV) (o : OpV) : Bool := (List.range l.length).any fun i => decide ((atOp l i).dev = o.dev) && (decide ((atOp l i).seq = o.seq) && (liveU (atOp l i) != liveU o))
def togL (xs : List Int) (l : List OpV) (ys : List Int) (m : List OpV) : List OpV := if (cartB xs l && cartB ys m) = true then m.filter (togB l) else []
theorem tog_no {xs : List Int} {l : List OpV} {ys : List Int} {m : List OpV} (h : (cartB xs l && cartB ys m) = false) : togL xs l ys m = [] := by unfold togL; rw [h]; rfl
theorem tog_yes {xs : List Int} {l : List OpV} {ys : List Int} {m : List OpV} (h : (cartB xs l && cartB ys m) = true) : togL xs l ys m = m.filter (togB l) := by unfold togL; rw [if_pos h]
theorem tog_len (xs : List Int) (l : List OpV) (ys : List Int) (m : List OpV) : (togL xs l ys m).length ≤ m.length := by
  unfold togL
  split
  · exact List.length_filter_le _ _
  · exact Nat.zero_le _
theorem togB_at {l : List OpV} (h : incB l = true) {o : OpV} {i : Nat} (hi : i < l.length) (e : eqN l i o.dev o.seq) : togB l o = (liveU (atOp l i) != liveU o) := by
  rw [Bool.eq_iff_iff]
  unfold togB
  rw [List.any_eq_true]
  constructor
  · rintro ⟨j, hj, hp⟩
    rw [List.mem_range] at hj
    simp only [Bool.and_eq_true, decide_eq_true_eq] at hp
    have : j = i := inc_uniq h hj hi ⟨hp.1, hp.2.1⟩ e
    subst this
    exact hp.2.2
  · intro hp
    refine ⟨i, by rw [List.mem_range]; exact hi, ?_⟩
    unfold eqN at e
    rw [decide_eq_true e.1, decide_eq_true e.2, hp]
    rfl
theorem togB_none {l : List OpV} {o : OpV} (h : ∀ j, j < l.length → ¬ eqN l j o.dev o.seq) : togB l o = false := by
  unfold togB
  rw [List.any_eq_false]
  intro j hj
  rw [List.mem_range] at hj
  have := h j hj
  unfold eqN at this
  simp only [Bool.and_eq_true, decide_eq_true_eq, not_and]
  intro a b
  exact absurd ⟨a, b⟩ this
theorem undos_pos {o : OpV} (h : o.ok = true) : 0 ≤ o.undos := by
  unfold OpV.ok opB headB at h
  simp only [Bool.and_eq_true] at h
  exact (inB_iff.1 h.1.2.2.2.2).1
theorem cart_ok_at {xs : List Int} {l : List OpV} (h : cartB xs l = true) {i : Nat} (hi : i < l.length) : (atOp l i).ok = true := by
  obtain ⟨_, _, _, _, e, _⟩ := cart_at h hi
  exact e

set_option linter.unusedSimpArgs false in
set_option maxRecDepth 100000 in
set_option maxHeartbeats 8000000 in
theorem specToggled (w : World) (B : Nat) (av ao bv bo : Option Addr) (nv cv no co mv dv mo eo : Nat) (xs : List Int) (l : List OpV) (ys : List Int) (m : List OpV) (hx : Ints w B av nv xs) (h : Ops w B ao no l) (hy : Ints w B bv mv ys) (g : Ops w B bo mo m) (hB : B ≤ w.heap.size) (hv : nv ≤ 1048576) (hn : no ≤ 1048576) (hv2 : mv ≤ 1048576) (hn2 : mo ≤ 1048576) (hm : ∀ i, i < no → (atOp l i).item.size ≤ 1048576) (hm2 : ∀ i, i < mo → (atOp m i).item.size ≤ 1048576) :
    Calls Try.prog 23 #[.agg #[.slice av nv cv, .slice ao no co], .agg #[.slice bv mv dv, .slice bo mo eo]] w (OpsPost (togL xs l ys m) w) := by
  obtain ⟨i0, hi0', hz0, hz1, hz2⟩ := info_parts Try.infoOp
  have hT := Two.mk0 w #[.slice av nv cv, .slice ao no co] #[.slice bv mv dv, .slice bo mo eo] 30
  have HV := Lib.hid (hx.below hT.bel hB)
  have HO := Lib.hid (h.below hT.bel hB)
  have HY := Lib.hid (hy.below hT.bel hB)
  have HG := Lib.hid (g.below hT.bel hB)
  have HT := Lib.hid hT
  have HL := Lib.hid h.1
  have HLm := Lib.hid g.1
  have HM := Lib.hid hm
  have HM2 := Lib.hid hm2
  have hBw := hB
  clear hx h hy g hT hm hm2 hB
  go_enter Try.func23, Try.ntmps23
  go_upto_region 1 with fail
  generalize (w.alloc (.cells #[.slice av nv cv, .slice ao no co] 30)).alloc (.cells #[.slice bv mv dv, .slice bo mo eo] 30) = w0 at HV HO HY HG HT ⊢
  have hsz0 := HT.out.bel.size
  have hsz1 := lt_of_row HT.out.snd
  have hown0 : (w0.alloc (.cells #[] 48)).ownsRow (w.heap.size + 2) 48 8 (.slice (some ⟨w0.heap.size, 0, none⟩) 0 0) 0 [] := World.ownsRow_made w0 #[] 0 (by omega) (by unfold maxLen; omega) rfl
  have hb0 : Below w0.heap.size w0 (w0.alloc (.cells #[] 48)) := (Below.refl _ w0).alloc (Nat.le_refl _) _
  go_upto_region 2 with fail
  have HOw := Lib.hid hown0
  have HVa := Lib.hid (HV.out.below hb0 (by omega))
  have HOa := Lib.hid (HO.out.below hb0 (by omega))
  have HYa := Lib.hid (HY.out.below hb0 (by omega))
  have HGa := Lib.hid (HG.out.below hb0 (by omega))
  have HTa := Lib.hid (HT.out.next hb0)
  have hsa := hb0.size
  have HB0 : Hid (Below (w.heap.size + 2) w0 (w0.alloc (.cells #[] 48))) := hb0.mono (by omega)
  clear hown0 hb0 HV HO HY HG HT
  generalize w0.alloc (.cells #[] 48) = wa at HOw HVa HOa HYa HGa HTa hsa HB0 ⊢
  generalize w0.heap.size = og at HOw hsz0 hsz1 hsa ⊢
  obtain ⟨a0, a1⟩ := pair_cells HTa.out.fst
  obtain ⟨b0, b1⟩ := pair_cells HTa.out.snd
  go_wp2_with fail
  refine (specCartOk wa B av ao nv cv no co xs l HVa.out HOa.out (by omega) hv hn HM.out).mono ?_
  rintro e w1 ⟨rfl, hb1⟩
  have HOw1 := Lib.hid (own_row_kept HOw.out hb1)
  have HO1 := Lib.hid (HOa.out.below hb1 (by omega))
  have HY1 := Lib.hid (HYa.out.below hb1 (by omega))
  have HG1 := Lib.hid (HGa.out.below hb1 (by omega))
  have HT1 := Lib.hid (HTa.out.next hb1)
  have HB1 := Lib.hid (HB0.out.trans (hb1.mono (by omega)))
  have hs1 := hb1.size
  clear hb1 HOw HVa HOa HYa HGa HTa HB0 a0 a1 b0 b1
  rcases hca : cartB xs l with _ | _
  · have HF := Lib.hid (tog_no (xs := xs) (l := l) (ys := ys) (m := m) (by rw [hca]; rfl))
    clear hca
    have HP : Hid (OwnOps w1 w.heap.size w1.heap.size (some ⟨og, 0, none⟩) 0 []) := own_none _ _ _ _
    go_wp2
    go_ret
    exact ⟨_, 0, by rw [HF.out]; rfl, by rw [HF.out]; exact HP.out, HT1.out.bel⟩
  have HCa := Lib.hid hca
  obtain ⟨a0, a1⟩ := pair_cells HT1.out.fst
  obtain ⟨b0, b1⟩ := pair_cells HT1.out.snd
  go_wp2_with fail
  refine (specCartOk w1 B bv bo mv dv mo eo ys m HY1.out HG1.out (by omega) hv2 hn2 HM2.out).mono ?_
  rintro e w2 ⟨rfl, hb2⟩
  have HOw2 := Lib.hid (own_row_kept HOw1.out hb2)
  have HO2 := Lib.hid (HO1.out.below hb2 (by omega))
  have HG2 := Lib.hid (HG1.out.below hb2 (by omega))
  have HT2 := Lib.hid (HT1.out.next hb2)
  have HB2 := Lib.hid (HB1.out.trans (hb2.mono (by omega)))
  have hs2 := hb2.size
  clear hb2 HOw1 HO1 HY1 HG1 HT1 HB1 a0 a1 b0 b1
  rcases hcb : cartB ys m with _ | _
  · have HF := Lib.hid (tog_no (xs := xs) (l := l) (ys := ys) (m := m) (by rw [hca, hcb]; rfl))
    clear hca hcb
    have HP : Hid (OwnOps w2 w.heap.size w2.heap.size (some ⟨og, 0, none⟩) 0 []) := own_none _ _ _ _
    go_wp2
    go_ret
    exact ⟨_, 0, by rw [HF.out]; rfl, by rw [HF.out]; exact HP.out, HT2.out.bel⟩
  have HF := Lib.hid (tog_yes (xs := xs) (l := l) (ys := ys) (m := m) (by rw [hca, hcb]; rfl))
  have HInc := Lib.hid (cart_inc hca)
  have HOka := Lib.hid (fun i (hi : i < l.length) => cart_ok_at hca hi)
  have HOkb := Lib.hid (fun i (hi : i < m.length) => cart_ok_at hcb hi)
  clear hca hcb HCa
  go_wp2
  go_loopw [5, 6] (fun v i wr => ∃ (k : Nat) (vv : Value), k ≤ mo ∧ vv = v ∧ i = .int .i64 (k : Int) ∧ Hid (wr.ownsRow (w.heap.size + 2) 48 8 v ((m.take k).filter (togB l)).length (opCells ((m.take k).filter (togB l)))) ∧ Hid (Below (w.heap.size + 2) w2 wr)) (fun _ i _ => mo - (intOf i).toNat)
  case atStart => exact ⟨0, _, Nat.zero_le _, rfl, rfl, HOw2, Below.refl _ _⟩
  case round =>
    obtain ⟨k, vv, hk, hvv, rfl, HR, HBr⟩ := hrel
    subst hvv
    have hsr := HBr.out.size
    have hlt1 := (Array.getElem?_eq_some_iff.1 HT2.out.snd).1
    obtain ⟨a0, a1⟩ := pair_cells ((HBr.out.block _ (by omega)).trans HT2.out.fst)
    obtain ⟨b0, b1⟩ := pair_cells ((HBr.out.block _ (by omega)).trans HT2.out.snd)
    by_cases hlt : k < mo
    rotate_left
    · obtain rfl : k = mo := by omega
      have HTk : Hid (m.take k = m) := by show _ = _; rw [← HLm.out]; exact List.take_length
      rw [HTk.out] at HR
      have HP : Hid (∃ a c, vv = .slice a (m.filter (togB l)).length c ∧ OwnOps wr w.heap.size wr.heap.size a (m.filter (togB l)).length (m.filter (togB l))) := by
        have hr := HR.out
        rcases hr.2 with ⟨e, e2⟩ | ⟨g, c, cur, e, r⟩
        · subst e
          rw [e2] at hr ⊢
          exact ⟨none, 0, rfl, (own_of_cells hr (Nat.le_refl _)).more (by omega) (Nat.le_refl _)⟩
        · subst e
          exact ⟨_, c, rfl, (own_of_cells hr (Nat.le_refl _)).more (by omega) (Nat.le_refl _)⟩
      obtain ⟨ra, rc, rfl, hown⟩ := HP.out
      have HOo := Lib.hid hown
      clear hown HP HR
      generalize m.filter (togB l) = L at HF HOo ⊢
      go_wp2
      go_ret
      exact ⟨ra, rc, by rw [HF.out]; rfl, by rw [HF.out]; exact HOo.out, HT2.out.bel.trans (HBr.out.mono (by omega))⟩
    have HSt := Lib.hid (filt_step (q := togB l) (l := m) (k := k) (by rw [HLm.out]; exact hlt))
    have HOr := Lib.hid (HO2.out.below HBr.out (by omega))
    have HGr := Lib.hid (HG2.out.below HBr.out (by omega))
    obtain ⟨b, off, rfl, hb, ho⟩ := HGr.out.2 k hlt
    have HOk : Hid (OpAt wr b (off + k * 8) (atOp m k)) := ho
    have hlen : ((m.take k).filter (togB l)).length ≤ 1048576 := by
      have := List.length_filter_le (togB l) (m.take k)
      have := List.length_take_le k m
      omega
    have HUx := Lib.hid (undos_pos (HOkb.out k (by rw [HLm.out]; exact hlt)))
    have HTn : Hid ((∀ j, j < l.length → ¬ eqN l j (atOp m k).dev (atOp m k).seq) → togB l (atOp m k) = false) := fun h => togB_none h
    have HTy : Hid (∀ i, i < l.length → eqN l i (atOp m k).dev (atOp m k).seq → togB l (atOp m k) = (liveU (atOp l i) != liveU (atOp m k))) := fun i hi e => togB_at HInc.out hi e
    clear ho
    generalize (m.take k).filter (togB l) = L at HR HSt hlen
    generalize atOp m k = x at HOk HSt HUx HTn HTy
    have hux := HUx.out
    obtain ⟨d0, d1, d2, d3, d4, d5, d6, d7⟩ := HOk.out
    have hki : (k : Int) < (mo : Int) := by omega
    have hS : wr.drew.cell? ⟨w.heap.size, 1, none⟩ = some (.slice ao no co) ∧ wr.drew.cell? ⟨w.heap.size + 1, 1, none⟩ = some (.slice (some ⟨b, off, none⟩) mo eo) ∧ wr.drew.cell? ⟨b, off + k * 8, none⟩ = some (.int .i64 x.dev) ∧ wr.drew.cell? ⟨b, off + k * 8 + 1, none⟩ = some (.int .i64 x.seq) := ⟨a1, b1, d0, d1⟩
    go_wp2_with fail
    refine wp_region_held_drew (S := fun w' => w'.cell? ⟨w.heap.size, 1, none⟩ = some (.slice ao no co) ∧ w'.cell? ⟨w.heap.size + 1, 1, none⟩ = some (.slice (some ⟨b, off, none⟩) mo eo) ∧ w'.cell? ⟨b, off + k * 8, none⟩ = some (.int .i64 x.dev) ∧ w'.cell? ⟨b, off + k * 8 + 1, none⟩ = some (.int .i64 x.seq)) (by kernel_rfl) hS (fun hHeld => ?_)
    refine wpAnyH_take (i := 0) (oi := { dst := some 25, op := Op.fieldAddr 30 (Operand.tmp 2) 1, type := 0, pos := "l07_deltas.go:84", after := #[], guard := none }) (v := ?_) rfl (by kernel_rfl) (by kernel_rfl) (by kernel_rfl) (fun _ _ _ h => h) (Or.inl ⟨by rfl, ?_⟩) (by assumption) ?_
    rotate_left
    · intro w hSw
      (try dsimp only at hSw)
      first | (go_simp; done) | (go_simp; with_reducible rfl)
    (try simp only [Act.put, List.setIfInBounds_toArray, List.set_cons_zero, List.set_cons_succ])
    refine wpAnyH_take (i := 1) (oi := { dst := some 26, op := Op.load 28 (Operand.tmp 25), type := 28, pos := "l07_deltas.go:84", after := #[{ on := 0, ground := Ground.data }], guard := none }) (v := ?_) rfl (by kernel_rfl) (by kernel_rfl) (by kernel_rfl) (fun _ _ _ h => h) (Or.inl ⟨by rfl, ?_⟩) (by assumption) ?_
    rotate_left
    · intro w hSw
      (try dsimp only at hSw)
      first | (go_simp; done) | (go_simp; with_reducible rfl)
    (try simp only [Act.put, List.setIfInBounds_toArray, List.set_cons_zero, List.set_cons_succ])
    refine wpAnyH_take (i := 2) (oi := { dst := some 27, op := Op.fieldAddr 30 (Operand.tmp 3) 1, type := 0, pos := "l07_deltas.go:84", after := #[], guard := none }) (v := ?_) rfl (by kernel_rfl) (by kernel_rfl) (by kernel_rfl) (fun _ _ _ h => h) (Or.inl ⟨by rfl, ?_⟩) (by assumption) ?_
    rotate_left
    · intro w hSw
      (try dsimp only at hSw)
      first | (go_simp; done) | (go_simp; with_reducible rfl)
    (try simp only [Act.put, List.setIfInBounds_toArray, List.set_cons_zero, List.set_cons_succ])
    refine wpAnyH_take (i := 3) (oi := { dst := some 28, op := Op.load 28 (Operand.tmp 27), type := 28, pos := "l07_deltas.go:84", after := #[{ on := 2, ground := Ground.data }], guard := none }) (v := ?_) rfl (by kernel_rfl) (by kernel_rfl) (by kernel_rfl) (fun _ _ _ h => h) (Or.inl ⟨by rfl, ?_⟩) (by assumption) ?_
    rotate_left
    · intro w hSw
      (try dsimp only at hSw)
      first | (go_simp; done) | (go_simp; with_reducible rfl)
    (try simp only [Act.put, List.setIfInBounds_toArray, List.set_cons_zero, List.set_cons_succ])
    refine wpAnyH_take (i := 4) (oi := { dst := some 29, op := Op.move (Operand.tmp 6), type := 3, pos := "l07_deltas.go:84", after := #[], guard := none }) (v := ?_) rfl (by kernel_rfl) (by kernel_rfl) (by kernel_rfl) (fun _ _ _ h => h) (Or.inl ⟨by rfl, ?_⟩) (by assumption) ?_
    rotate_left
    · intro w hSw
      (try dsimp only at hSw)
      first | (go_simp; done) | (go_simp; with_reducible rfl)
    (try simp only [Act.put, List.setIfInBounds_toArray, List.set_cons_zero, List.set_cons_succ])
    refine wpAnyH_take (i := 5) (oi := { dst := some 30, op := Op.indexAddr 28 (Operand.tmp 28) (Operand.tmp 29), type := 0, pos := "l07_deltas.go:84", after := #[{ on := 3, ground := Ground.data }, { on := 4, ground := Ground.data }], guard := none }) (v := ?_) rfl (by kernel_rfl) (by kernel_rfl) (by kernel_rfl) (fun _ _ _ h => h) (Or.inl ⟨by rfl, ?_⟩) (by assumption) ?_
    rotate_left
    · intro w hSw
      (try dsimp only at hSw)
      first | (go_simp; done) | (go_simp; with_reducible rfl)
    (try simp only [Act.put, List.setIfInBounds_toArray, List.set_cons_zero, List.set_cons_succ])
    refine wpAnyH_take (i := 6) (oi := { dst := some 31, op := Op.fieldAddr 48 (Operand.tmp 30) 0, type := 0, pos := "l07_deltas.go:84", after := #[{ on := 5, ground := Ground.data }], guard := none }) (v := ?_) rfl (by kernel_rfl) (by kernel_rfl) (by kernel_rfl) (fun _ _ _ h => h) (Or.inl ⟨by rfl, ?_⟩) (by assumption) ?_
    rotate_left
    · intro w hSw
      (try dsimp only at hSw)
      first | (go_simp; done) | (go_simp; with_reducible rfl)
    (try simp only [Act.put, List.setIfInBounds_toArray, List.set_cons_zero, List.set_cons_succ])
    refine wpAnyH_take (i := 7) (oi := { dst := some 32, op := Op.load 2 (Operand.tmp 31), type := 2, pos := "l07_deltas.go:84", after := #[{ on := 6, ground := Ground.data }], guard := none }) (v := ?_) rfl (by kernel_rfl) (by kernel_rfl) (by kernel_rfl) (fun _ _ _ h => h) (Or.inl ⟨by rfl, ?_⟩) (by assumption) ?_
    rotate_left
    · intro w hSw
      (try dsimp only at hSw)
      first | (go_simp; done) | (go_simp; with_reducible rfl)
    (try simp only [Act.put, List.setIfInBounds_toArray, List.set_cons_zero, List.set_cons_succ])
    refine wpAnyH_take (i := 8) (oi := { dst := some 33, op := Op.fieldAddr 30 (Operand.tmp 3) 1, type := 0, pos := "l07_deltas.go:84", after := #[], guard := none }) (v := ?_) rfl (by kernel_rfl) (by kernel_rfl) (by kernel_rfl) (fun _ _ _ h => h) (Or.inl ⟨by rfl, ?_⟩) (by assumption) ?_
    rotate_left
    · intro w hSw
      (try dsimp only at hSw)
      first | (go_simp; done) | (go_simp; with_reducible rfl)
    (try simp only [Act.put, List.setIfInBounds_toArray, List.set_cons_zero, List.set_cons_succ])
    refine wpAnyH_take (i := 9) (oi := { dst := some 34, op := Op.load 28 (Operand.tmp 33), type := 28, pos := "l07_deltas.go:84", after := #[{ on := 8, ground := Ground.data }], guard := none }) (v := ?_) rfl (by kernel_rfl) (by kernel_rfl) (by kernel_rfl) (fun _ _ _ h => h) (Or.inl ⟨by rfl, ?_⟩) (by assumption) ?_
    rotate_left
    · intro w hSw
      (try dsimp only at hSw)
      first | (go_simp; done) | (go_simp; with_reducible rfl)
    (try simp only [Act.put, List.setIfInBounds_toArray, List.set_cons_zero, List.set_cons_succ])
    refine wpAnyH_take (i := 10) (oi := { dst := some 35, op := Op.move (Operand.tmp 6), type := 3, pos := "l07_deltas.go:84", after := #[], guard := none }) (v := ?_) rfl (by kernel_rfl) (by kernel_rfl) (by kernel_rfl) (fun _ _ _ h => h) (Or.inl ⟨by rfl, ?_⟩) (by assumption) ?_
    rotate_left
    · intro w hSw
      (try dsimp only at hSw)
      first | (go_simp; done) | (go_simp; with_reducible rfl)
    (try simp only [Act.put, List.setIfInBounds_toArray, List.set_cons_zero, List.set_cons_succ])
    refine wpAnyH_take (i := 11) (oi := { dst := some 36, op := Op.indexAddr 28 (Operand.tmp 34) (Operand.tmp 35), type := 0, pos := "l07_deltas.go:84", after := #[{ on := 9, ground := Ground.data }, { on := 10, ground := Ground.data }], guard := none }) (v := ?_) rfl (by kernel_rfl) (by kernel_rfl) (by kernel_rfl) (fun _ _ _ h => h) (Or.inl ⟨by rfl, ?_⟩) (by assumption) ?_
    rotate_left
    · intro w hSw
      (try dsimp only at hSw)
      first | (go_simp; done) | (go_simp; with_reducible rfl)
    (try simp only [Act.put, List.setIfInBounds_toArray, List.set_cons_zero, List.set_cons_succ])
    refine wpAnyH_take (i := 12) (oi := { dst := some 37, op := Op.fieldAddr 48 (Operand.tmp 36) 1, type := 0, pos := "l07_deltas.go:84", after := #[{ on := 11, ground := Ground.data }], guard := none }) (v := ?_) rfl (by kernel_rfl) (by kernel_rfl) (by kernel_rfl) (fun _ _ _ h => h) (Or.inl ⟨by rfl, ?_⟩) (by assumption) ?_
    rotate_left
    · intro w hSw
      (try dsimp only at hSw)
      first | (go_simp; done) | (go_simp; with_reducible rfl)
    (try simp only [Act.put, List.setIfInBounds_toArray, List.set_cons_zero, List.set_cons_succ])
    refine wpAnyH_take (i := 13) (oi := { dst := some 38, op := Op.load 2 (Operand.tmp 37), type := 2, pos := "l07_deltas.go:84", after := #[{ on := 12, ground := Ground.data }], guard := none }) (v := ?_) rfl (by kernel_rfl) (by kernel_rfl) (by kernel_rfl) (fun _ _ _ h => h) (Or.inl ⟨by rfl, ?_⟩) (by assumption) ?_
    rotate_left
    · intro w hSw
      (try dsimp only at hSw)
      first | (go_simp; done) | (go_simp; with_reducible rfl)
    (try simp only [Act.put, List.setIfInBounds_toArray, List.set_cons_zero, List.set_cons_succ])
    refine wpAnyH_ready (rs := [14]) (by kernel_rfl) (by simp) ?_
    refine AllReadyH.cons (o := { dst := some 39, op := Op.call { callee := Callee.value (Operand.func 46), args := #[Operand.tmp 26, Operand.tmp 32, Operand.tmp 38], argTypes := #[28, 2, 2] }, type := 3, pos := "l07_deltas.go:84", after := #[{ on := 1, ground := Ground.data }, { on := 7, ground := Ground.data }, { on := 13, ground := Ground.data }], guard := none }) rfl (fun K hK => ?_) AllReadyH.nil
    go_simp
    go_at_call 46
    refine (l4At wr.drew B ao no co l x.dev x.seq (HOr.out.kept fun _ _ => rfl) hn).mono ?_
    rintro e w3 ⟨hres, rfl⟩
    obtain ⟨kk, HK, rfl⟩ : ∃ kk : Int, Hid ((∃ i : Nat, i < no ∧ eqN l i x.dev x.seq ∧ kk = (i : Int)) ∨ ((∀ j, j < no → ¬ eqN l j x.dev x.seq) ∧ kk = -1)) ∧ e = .returned (.int .i64 kk) := by
      rcases hres with ⟨i, q1, q2, rfl⟩ | ⟨q1, rfl⟩
      · exact ⟨_, .inl ⟨i, q1, q2, rfl⟩, rfl⟩
      · exact ⟨_, .inr ⟨q1, rfl⟩, rfl⟩
    refine hK.out _ _ hS (fun hHeld2 => ?_)
    clear hK K
    (try simp only [Act.put, List.setIfInBounds_toArray, List.set_cons_zero, List.set_cons_succ])
    refine wpAnyH_take (i := 15) (oi := { dst := some 7, op := Op.assign (Operand.tmp 39), type := 3, pos := "l07_deltas.go:84", after := #[{ on := 14, ground := Ground.data }, { on := 14, ground := Ground.chain }, { on := 0, ground := Ground.phase }, { on := 1, ground := Ground.phase }, { on := 2, ground := Ground.phase }, { on := 3, ground := Ground.phase }, { on := 4, ground := Ground.phase }, { on := 5, ground := Ground.phase }, { on := 6, ground := Ground.phase }, { on := 7, ground := Ground.phase }, { on := 8, ground := Ground.phase }, { on := 9, ground := Ground.phase }, { on := 10, ground := Ground.phase }, { on := 11, ground := Ground.phase }, { on := 12, ground := Ground.phase }, { on := 13, ground := Ground.phase }, { on := 14, ground := Ground.phase }], guard := none }) (v := ?_) rfl (by kernel_rfl) (by kernel_rfl) (by kernel_rfl) (fun _ _ _ h => h) (Or.inl ⟨by rfl, ?_⟩) (by assumption) ?_
    rotate_left
    · intro w hSw
      (try dsimp only at hSw)
      first | (go_simp; done) | (go_simp; with_reducible rfl)
    (try simp only [Act.put, List.setIfInBounds_toArray, List.set_cons_zero, List.set_cons_succ])
    refine wpAnyH_done (by kernel_rfl) ?_ _
    clear hHeld hHeld2 hres
    have HBd : Hid (Below (w.heap.size + 2) w2 wr.drew) := ⟨HBr.out.os, HBr.out.tape, HBr.out.output, HBr.out.size, HBr.out.block⟩
    have HRd : Hid (wr.drew.ownsRow (w.heap.size + 2) 48 8 vv L.length (opCells L)) := HR.out.drew
    have hsd : wr.drew.heap.size = wr.heap.size := rfl
    have HOd : Hid (Ops wr.drew B ao no l) := HOr.out.kept fun _ _ => rfl
    have HOkd : Hid (OpAt wr.drew b (off + k * 8) x) := HOk.out
    have HTd1 : Hid (wr.drew.cell? ⟨w.heap.size, 1, none⟩ = some (.slice ao no co) ∧ wr.drew.cell? ⟨w.heap.size + 1, 1, none⟩ = some (.slice (some ⟨b, off, none⟩) mo eo)) := ⟨a1, b1⟩
    have hsd2 : w2.heap.size ≤ wr.drew.heap.size := hsr
    clear hS d0 d1 d2 d3 d4 d5 d6 d7 a0 a1 b0 b1 HBr HR HOr HOk HGr hsd
    generalize wr.drew = y0 at HBd HRd HOd HOkd HTd1 hsd2 ⊢
    obtain ⟨a1, b1⟩ := HTd1.out
    obtain ⟨d0, d1, d2, d3, d4, d5, d6, d7⟩ := HOkd.out
    rcases HK.out with ⟨i, hi, he, rfl⟩ | ⟨hnone, rfl⟩
    rotate_left
    · have HE : Hid ((m.take (k + 1)).filter (togB l) = L) := by show _ = _; rw [HSt.out, HTn.out (by rw [HL.out]; exact hnone)]; rfl
      clear hnone HK
      have hS : y0.drew.cell? ⟨w.heap.size, 1, none⟩ = some (.slice ao no co) ∧ y0.drew.cell? ⟨w.heap.size + 1, 1, none⟩ = some (.slice (some ⟨b, off, none⟩) mo eo) ∧ y0.drew.cell? ⟨b, off + k * 8, none⟩ = some (.int .i64 x.dev) ∧ y0.drew.cell? ⟨b, off + k * 8 + 1, none⟩ = some (.int .i64 x.seq) := ⟨a1, b1, d0, d1⟩
      go_wp2_with fail
      refine wp_region_held_drew (S := fun w' => w'.cell? ⟨w.heap.size, 1, none⟩ = some (.slice ao no co) ∧ w'.cell? ⟨w.heap.size + 1, 1, none⟩ = some (.slice (some ⟨b, off, none⟩) mo eo) ∧ w'.cell? ⟨b, off + k * 8, none⟩ = some (.int .i64 x.dev) ∧ w'.cell? ⟨b, off + k * 8 + 1, none⟩ = some (.int .i64 x.seq)) (by kernel_rfl) hS (fun hHeld => ?_)
      refine wpAnyH_take (i := 0) (oi := { dst := some 40, op := Op.move (Operand.tmp 7), type := 3, pos := "l07_deltas.go:85", after := #[], guard := none }) (v := ?_) rfl (by kernel_rfl) (by kernel_rfl) (by kernel_rfl) (fun _ _ _ h => h) (Or.inl ⟨by rfl, ?_⟩) (by assumption) ?_
      rotate_left
      · intro w hSw
        (try dsimp only at hSw)
        first | (go_simp; done) | (go_simp; with_reducible rfl)
      (try simp only [Act.put, List.setIfInBounds_toArray, List.set_cons_zero, List.set_cons_succ])
      refine wpAnyH_take (i := 1) (oi := { dst := some 41, op := Op.binOp BinOp.geq 3 (Operand.tmp 40) (Operand.const (Value.int IntKind.i64 0)) 3, type := 4, pos := "l07_deltas.go:85", after := #[{ on := 0, ground := Ground.data }], guard := none }) (v := ?_) rfl (by kernel_rfl) (by kernel_rfl) (by kernel_rfl) (fun _ _ _ h => h) (Or.inl ⟨by rfl, ?_⟩) (by assumption) ?_
      rotate_left
      · intro w hSw
        (try dsimp only at hSw)
        first | (go_simp; done) | (go_simp; with_reducible rfl)
      (try simp only [Act.put, List.setIfInBounds_toArray, List.set_cons_zero, List.set_cons_succ])
      refine wpAnyH_take (i := 2) (oi := { dst := some 42, op := Op.move (Operand.tmp 41), type := 4, pos := "l07_deltas.go:85", after := #[{ on := 1, ground := Ground.data }], guard := none }) (v := ?_) rfl (by kernel_rfl) (by kernel_rfl) (by kernel_rfl) (fun _ _ _ h => h) (Or.inl ⟨by rfl, ?_⟩) (by assumption) ?_
      rotate_left
      · intro w hSw
        (try dsimp only at hSw)
        first | (go_simp; done) | (go_simp; with_reducible rfl)
      (try simp only [Act.put, List.setIfInBounds_toArray, List.set_cons_zero, List.set_cons_succ])
      refine wpAnyH_take (i := 3) (oi := { dst := some 43, op := Op.fieldAddr 30 (Operand.tmp 2) 1, type := 0, pos := "l07_deltas.go:85", after := #[{ on := 2, ground := Ground.guard }], guard := some (2, true) }) (v := undef) rfl (by kernel_rfl) (by kernel_rfl) (by kernel_rfl) (fun _ _ _ h => h) (Or.inr ⟨by rfl, rfl⟩) (by assumption) ?_
      (try simp only [Act.put, List.setIfInBounds_toArray, List.set_cons_zero, List.set_cons_succ])
      refine wpAnyH_take (i := 4) (oi := { dst := some 44, op := Op.load 28 (Operand.tmp 43), type := 28, pos := "l07_deltas.go:85", after := #[{ on := 3, ground := Ground.data }, { on := 2, ground := Ground.guard }], guard := some (2, true) }) (v := undef) rfl (by kernel_rfl) (by kernel_rfl) (by kernel_rfl) (fun _ _ _ h => h) (Or.inr ⟨by rfl, rfl⟩) (by assumption) ?_
      (try simp only [Act.put, List.setIfInBounds_toArray, List.set_cons_zero, List.set_cons_succ])
      refine wpAnyH_take (i := 5) (oi := { dst := some 45, op := Op.move (Operand.tmp 7), type := 3, pos := "l07_deltas.go:85", after := #[{ on := 2, ground := Ground.guard }], guard := some (2, true) }) (v := undef) rfl (by kernel_rfl) (by kernel_rfl) (by kernel_rfl) (fun _ _ _ h => h) (Or.inr ⟨by rfl, rfl⟩) (by assumption) ?_
      (try simp only [Act.put, List.setIfInBounds_toArray, List.set_cons_zero, List.set_cons_succ])
      refine wpAnyH_take (i := 6) (oi := { dst := some 46, op := Op.indexAddr 28 (Operand.tmp 44) (Operand.tmp 45), type := 0, pos := "l07_deltas.go:85", after := #[{ on := 4, ground := Ground.data }, { on := 5, ground := Ground.data }, { on := 2, ground := Ground.guard }], guard := some (2, true) }) (v := undef) rfl (by kernel_rfl) (by kernel_rfl) (by kernel_rfl) (fun _ _ _ h => h) (Or.inr ⟨by rfl, rfl⟩) (by assumption) ?_
      (try simp only [Act.put, List.setIfInBounds_toArray, List.set_cons_zero, List.set_cons_succ])
      refine wpAnyH_take (i := 7) (oi := { dst := some 47, op := Op.load 48 (Operand.tmp 46), type := 48, pos := "l07_deltas.go:85", after := #[{ on := 6, ground := Ground.data }, { on := 2, ground := Ground.guard }], guard := some (2, true) }) (v := undef) rfl (by kernel_rfl) (by kernel_rfl) (by kernel_rfl) (fun _ _ _ h => h) (Or.inr ⟨by rfl, rfl⟩) (by assumption) ?_
      (try simp only [Act.put, List.setIfInBounds_toArray, List.set_cons_zero, List.set_cons_succ])
      refine wpAnyH_take (i := 8) (oi := { dst := some 48, op := Op.call { callee := Callee.value (Operand.func 47), args := #[Operand.tmp 47], argTypes := #[48] }, type := 4, pos := "l07_deltas.go:85", after := #[{ on := 7, ground := Ground.data }, { on := 2, ground := Ground.chain }, { on := 2, ground := Ground.guard }], guard := some (2, true) }) (v := undef) rfl (by kernel_rfl) (by kernel_rfl) (by kernel_rfl) (fun _ _ _ h => h) (Or.inr ⟨by rfl, rfl⟩) (by assumption) ?_
      (try simp only [Act.put, List.setIfInBounds_toArray, List.set_cons_zero, List.set_cons_succ])
      refine wpAnyH_take (i := 9) (oi := { dst := some 49, op := Op.fieldAddr 30 (Operand.tmp 3) 1, type := 0, pos := "l07_deltas.go:85", after := #[{ on := 2, ground := Ground.guard }], guard := some (2, true) }) (v := undef) rfl (by kernel_rfl) (by kernel_rfl) (by kernel_rfl) (fun _ _ _ h => h) (Or.inr ⟨by rfl, rfl⟩) (by assumption) ?_
      (try simp only [Act.put, List.setIfInBounds_toArray, List.set_cons_zero, List.set_cons_succ])
      refine wpAnyH_take (i := 10) (oi := { dst := some 50, op := Op.load 28 (Operand.tmp 49), type := 28, pos := "l07_deltas.go:85", after := #[{ on := 9, ground := Ground.data }, { on := 2, ground := Ground.guard }], guard := some (2, true) }) (v := undef) rfl (by kernel_rfl) (by kernel_rfl) (by kernel_rfl) (fun _ _ _ h => h) (Or.inr ⟨by rfl, rfl⟩) (by assumption) ?_
      (try simp only [Act.put, List.setIfInBounds_toArray, List.set_cons_zero, List.set_cons_succ])
      refine wpAnyH_take (i := 11) (oi := { dst := some 51, op := Op.move (Operand.tmp 6), type := 3, pos := "l07_deltas.go:85", after := #[{ on := 2, ground := Ground.guard }], guard := some (2, true) }) (v := undef) rfl (by kernel_rfl) (by kernel_rfl) (by kernel_rfl) (fun _ _ _ h => h) (Or.inr ⟨by rfl, rfl⟩) (by assumption) ?_
      (try simp only [Act.put, List.setIfInBounds_toArray, List.set_cons_zero, List.set_cons_succ])
      refine wpAnyH_take (i := 12) (oi := { dst := some 52, op := Op.indexAddr 28 (Operand.tmp 50) (Operand.tmp 51), type := 0, pos := "l07_deltas.go:85", after := #[{ on := 10, ground := Ground.data }, { on := 11, ground := Ground.data }, { on := 2, ground := Ground.guard }], guard := some (2, true) }) (v := undef) rfl (by kernel_rfl) (by kernel_rfl) (by kernel_rfl) (fun _ _ _ h => h) (Or.inr ⟨by rfl, rfl⟩) (by assumption) ?_
      (try simp only [Act.put, List.setIfInBounds_toArray, List.set_cons_zero, List.set_cons_succ])
      refine wpAnyH_take (i := 13) (oi := { dst := some 53, op := Op.load 48 (Operand.tmp 52), type := 48, pos := "l07_deltas.go:85", after := #[{ on := 12, ground := Ground.data }, { on := 2, ground := Ground.guard }], guard := some (2, true) }) (v := undef) rfl (by kernel_rfl) (by kernel_rfl) (by kernel_rfl) (fun _ _ _ h => h) (Or.inr ⟨by rfl, rfl⟩) (by assumption) ?_
      (try simp only [Act.put, List.setIfInBounds_toArray, List.set_cons_zero, List.set_cons_succ])
      refine wpAnyH_take (i := 14) (oi := { dst := some 54, op := Op.call { callee := Callee.value (Operand.func 47), args := #[Operand.tmp 53], argTypes := #[48] }, type := 4, pos := "l07_deltas.go:85", after := #[{ on := 13, ground := Ground.data }, { on := 8, ground := Ground.chain }, { on := 2, ground := Ground.guard }], guard := some (2, true) }) (v := undef) rfl (by kernel_rfl) (by kernel_rfl) (by kernel_rfl) (fun _ _ _ h => h) (Or.inr ⟨by rfl, rfl⟩) (by assumption) ?_
      (try simp only [Act.put, List.setIfInBounds_toArray, List.set_cons_zero, List.set_cons_succ])
      refine wpAnyH_take (i := 15) (oi := { dst := some 55, op := Op.binOp BinOp.neq 4 (Operand.tmp 48) (Operand.tmp 54) 4, type := 4, pos := "l07_deltas.go:85", after := #[{ on := 8, ground := Ground.data }, { on := 14, ground := Ground.data }, { on := 2, ground := Ground.guard }], guard := some (2, true) }) (v := undef) rfl (by kernel_rfl) (by kernel_rfl) (by kernel_rfl) (fun _ _ _ h => h) (Or.inr ⟨by rfl, rfl⟩) (by assumption) ?_
      (try simp only [Act.put, List.setIfInBounds_toArray, List.set_cons_zero, List.set_cons_succ])
      refine wpAnyH_take (i := 16) (oi := { dst := some 56, op := Op.pick (Operand.tmp 42) (Operand.tmp 55) (Operand.const (Value.bool false)), type := 4, pos := "l07_deltas.go:85", after := #[{ on := 2, ground := Ground.data }, { on := 15, ground := Ground.data }], guard := none }) (v := ?_) rfl (by kernel_rfl) (by kernel_rfl) (by kernel_rfl) (fun _ _ _ h => h) (Or.inl ⟨by rfl, ?_⟩) (by assumption) ?_
      rotate_left
      · intro w hSw
        (try dsimp only at hSw)
        first | (go_simp; done) | (go_simp; with_reducible rfl)
      (try simp only [Act.put, List.setIfInBounds_toArray, List.set_cons_zero, List.set_cons_succ])
      refine wpAnyH_done (by kernel_rfl) ?_ _
      have HBe : Hid (Below (w.heap.size + 2) w2 y0.drew) := ⟨HBd.out.os, HBd.out.tape, HBd.out.output, HBd.out.size, HBd.out.block⟩
      have HRe : Hid (y0.drew.ownsRow (w.heap.size + 2) 48 8 vv L.length (opCells L)) := HRd.out.drew
      rw [← HE.out] at HRe
      clear hS hHeld d0 d1 d2 d3 d4 d5 d6 d7 a1 b1
      go_wp2
      go_roundw
      case rel => exact ⟨k + 1, _, by omega, rfl, by go_num, HRe, HBe⟩
      case measure => simp [intOf]; omega
    have HTg := Lib.hid (HTy.out i (by rw [HL.out]; exact hi) he)
    have HUy := Lib.hid (undos_pos (HOka.out i (by rw [HL.out]; exact hi)))
    clear he HK
    obtain ⟨b2, off2, rfl, hb2, ho2⟩ := HOd.out.2 i hi
    have HOy : Hid (OpAt y0 b2 (off2 + i * 8) (atOp l i)) := ho2
    clear ho2
    generalize atOp l i = y at HTg HUy HOy
    have huy := HUy.out
    obtain ⟨e0, e1, e2, e3, e4, e5, e6, e7⟩ := HOy.out
    obtain ⟨ly, hly⟩ : ∃ b, liveU y = b := ⟨_, rfl⟩
    obtain ⟨lx, hlx⟩ : ∃ b, liveU x = b := ⟨_, rfl⟩
    have HLy : Hid (decide (y.undos % 2 = 0) = ly) := hly
    have HLx : Hid (decide (x.undos % 2 = 0) = lx) := hlx
    rw [hly, hlx] at HTg
    clear hly hlx
    obtain ⟨tb, hbq⟩ : ∃ b, (ly != lx) = b := ⟨_, rfl⟩
    rw [hbq] at HTg
    have hbx : (ly == lx) = !tb := by rw [← hbq]; cases ly <;> cases lx <;> rfl
    have hii : (i : Int) < (no : Int) := by omega
    have hi0 : decide ((0 : Int) ≤ (i : Int)) = true := decide_eq_true (by omega)
    have hS : y0.drew.cell? ⟨w.heap.size, 1, none⟩ = some (.slice (some ⟨b2, off2, none⟩) no co) ∧ y0.drew.cell? ⟨w.heap.size + 1, 1, none⟩ = some (.slice (some ⟨b, off, none⟩) mo eo) ∧ y0.drew.cell? ⟨b, off + k * 8, none⟩ = some (.int .i64 x.dev) ∧ y0.drew.cell? ⟨b, off + k * 8 + 1, none⟩ = some (.int .i64 x.seq) ∧ y0.drew.cell? ⟨b, off + k * 8 + 2, none⟩ = some (.int .i64 x.stamp) ∧ y0.drew.cell? ⟨b, off + k * 8 + 3, none⟩ = some (.int .i64 x.kind) ∧ y0.drew.cell? ⟨b, off + k * 8 + 4, none⟩ = some (.string x.item) ∧ y0.drew.cell? ⟨b, off + k * 8 + 5, none⟩ = some (.int .i64 x.qty) ∧ y0.drew.cell? ⟨b, off + k * 8 + 6, none⟩ = some (.int .i64 x.level) ∧ y0.drew.cell? ⟨b, off + k * 8 + 7, none⟩ = some (.int .i64 x.undos) ∧ y0.drew.cell? ⟨b2, off2 + i * 8, none⟩ = some (.int .i64 y.dev) ∧ y0.drew.cell? ⟨b2, off2 + i * 8 + 1, none⟩ = some (.int .i64 y.seq) ∧ y0.drew.cell? ⟨b2, off2 + i * 8 + 2, none⟩ = some (.int .i64 y.stamp) ∧ y0.drew.cell? ⟨b2, off2 + i * 8 + 3, none⟩ = some (.int .i64 y.kind) ∧ y0.drew.cell? ⟨b2, off2 + i * 8 + 4, none⟩ = some (.string y.item) ∧ y0.drew.cell? ⟨b2, off2 + i * 8 + 5, none⟩ = some (.int .i64 y.qty) ∧ y0.drew.cell? ⟨b2, off2 + i * 8 + 6, none⟩ = some (.int .i64 y.level) ∧ y0.drew.cell? ⟨b2, off2 + i * 8 + 7, none⟩ = some (.int .i64 y.undos) := ⟨a1, b1, d0, d1, d2, d3, d4, d5, d6, d7, e0, e1, e2, e3, e4, e5, e6, e7⟩
    go_wp2_with fail
    refine wp_region_held_drew (S := fun w' => w'.cell? ⟨w.heap.size, 1, none⟩ = some (.slice (some ⟨b2, off2, none⟩) no co) ∧ w'.cell? ⟨w.heap.size + 1, 1, none⟩ = some (.slice (some ⟨b, off, none⟩) mo eo) ∧ w'.cell? ⟨b, off + k * 8, none⟩ = some (.int .i64 x.dev) ∧ w'.cell? ⟨b, off + k * 8 + 1, none⟩ = some (.int .i64 x.seq) ∧ w'.cell? ⟨b, off + k * 8 + 2, none⟩ = some (.int .i64 x.stamp) ∧ w'.cell? ⟨b, off + k * 8 + 3, none⟩ = some (.int .i64 x.kind) ∧ w'.cell? ⟨b, off + k * 8 + 4, none⟩ = some (.string x.item) ∧ w'.cell? ⟨b, off + k * 8 + 5, none⟩ = some (.int .i64 x.qty) ∧ w'.cell? ⟨b, off + k * 8 + 6, none⟩ = some (.int .i64 x.level) ∧ w'.cell? ⟨b, off + k * 8 + 7, none⟩ = some (.int .i64 x.undos) ∧ w'.cell? ⟨b2, off2 + i * 8, none⟩ = some (.int .i64 y.dev) ∧ w'.cell? ⟨b2, off2 + i * 8 + 1, none⟩ = some (.int .i64 y.seq) ∧ w'.cell? ⟨b2, off2 + i * 8 + 2, none⟩ = some (.int .i64 y.stamp) ∧ w'.cell? ⟨b2, off2 + i * 8 + 3, none⟩ = some (.int .i64 y.kind) ∧ w'.cell? ⟨b2, off2 + i * 8 + 4, none⟩ = some (.string y.item) ∧ w'.cell? ⟨b2, off2 + i * 8 + 5, none⟩ = some (.int .i64 y.qty) ∧ w'.cell? ⟨b2, off2 + i * 8 + 6, none⟩ = some (.int .i64 y.level) ∧ w'.cell? ⟨b2, off2 + i * 8 + 7, none⟩ = some (.int .i64 y.undos)) (by kernel_rfl) hS (fun hHeld => ?_)
    refine wpAnyH_take (i := 0) (oi := { dst := some 40, op := Op.move (Operand.tmp 7), type := 3, pos := "l07_deltas.go:85", after := #[], guard := none }) (v := ?_) rfl (by kernel_rfl) (by kernel_rfl) (by kernel_rfl) (fun _ _ _ h => h) (Or.inl ⟨by rfl, ?_⟩) (by assumption) ?_
    rotate_left
    · intro w hSw
      (try dsimp only at hSw)
      first | (go_simp; done) | (go_simp; with_reducible rfl)
    (try simp only [Act.put, List.setIfInBounds_toArray, List.set_cons_zero, List.set_cons_succ])
    refine wpAnyH_take (i := 1) (oi := { dst := some 41, op := Op.binOp BinOp.geq 3 (Operand.tmp 40) (Operand.const (Value.int IntKind.i64 0)) 3, type := 4, pos := "l07_deltas.go:85", after := #[{ on := 0, ground := Ground.data }], guard := none }) (v := ?_) rfl (by kernel_rfl) (by kernel_rfl) (by kernel_rfl) (fun _ _ _ h => h) (Or.inl ⟨by rfl, ?_⟩) (by assumption) ?_
    rotate_left
    · intro w hSw
      (try dsimp only at hSw)
      first | (go_simp; done) | (go_simp; with_reducible rfl)
    (try simp only [Act.put, List.setIfInBounds_toArray, List.set_cons_zero, List.set_cons_succ])
    refine wpAnyH_take (i := 2) (oi := { dst := some 42, op := Op.move (Operand.tmp 41), type := 4, pos := "l07_deltas.go:85", after := #[{ on := 1, ground := Ground.data }], guard := none }) (v := ?_) rfl (by kernel_rfl) (by kernel_rfl) (by kernel_rfl) (fun _ _ _ h => h) (Or.inl ⟨by rfl, ?_⟩) (by assumption) ?_
    rotate_left
    · intro w hSw
      (try dsimp only at hSw)
      first | (go_simp; done) | (go_simp; with_reducible rfl)
    (try simp only [Act.put, List.setIfInBounds_toArray, List.set_cons_zero, List.set_cons_succ])
    refine wpAnyH_take (i := 3) (oi := { dst := some 43, op := Op.fieldAddr 30 (Operand.tmp 2) 1, type := 0, pos := "l07_deltas.go:85", after := #[{ on := 2, ground := Ground.guard }], guard := some (2, true) }) (v := ?_) rfl (by kernel_rfl) (by kernel_rfl) (by kernel_rfl) (fun _ _ _ h => h) (Or.inl ⟨by rfl, ?_⟩) (by assumption) ?_
    rotate_left
    · intro w hSw
      (try dsimp only at hSw)
      first | (go_simp; done) | (go_simp; with_reducible rfl)
    (try simp only [Act.put, List.setIfInBounds_toArray, List.set_cons_zero, List.set_cons_succ])
    refine wpAnyH_take (i := 4) (oi := { dst := some 44, op := Op.load 28 (Operand.tmp 43), type := 28, pos := "l07_deltas.go:85", after := #[{ on := 3, ground := Ground.data }, { on := 2, ground := Ground.guard }], guard := some (2, true) }) (v := ?_) rfl (by kernel_rfl) (by kernel_rfl) (by kernel_rfl) (fun _ _ _ h => h) (Or.inl ⟨by rfl, ?_⟩) (by assumption) ?_
    rotate_left
    · intro w hSw
      (try dsimp only at hSw)
      first | (go_simp; done) | (go_simp; with_reducible rfl)
    (try simp only [Act.put, List.setIfInBounds_toArray, List.set_cons_zero, List.set_cons_succ])
    refine wpAnyH_take (i := 5) (oi := { dst := some 45, op := Op.move (Operand.tmp 7), type := 3, pos := "l07_deltas.go:85", after := #[{ on := 2, ground := Ground.guard }], guard := some (2, true) }) (v := ?_) rfl (by kernel_rfl) (by kernel_rfl) (by kernel_rfl) (fun _ _ _ h => h) (Or.inl ⟨by rfl, ?_⟩) (by assumption) ?_
    rotate_left
    · intro w hSw
      (try dsimp only at hSw)
      first | (go_simp; done) | (go_simp; with_reducible rfl)
    (try simp only [Act.put, List.setIfInBounds_toArray, List.set_cons_zero, List.set_cons_succ])
    refine wpAnyH_take (i := 6) (oi := { dst := some 46, op := Op.indexAddr 28 (Operand.tmp 44) (Operand.tmp 45), type := 0, pos := "l07_deltas.go:85", after := #[{ on := 4, ground := Ground.data }, { on := 5, ground := Ground.data }, { on := 2, ground := Ground.guard }], guard := some (2, true) }) (v := ?_) rfl (by kernel_rfl) (by kernel_rfl) (by kernel_rfl) (fun _ _ _ h => h) (Or.inl ⟨by rfl, ?_⟩) (by assumption) ?_
    rotate_left
    · intro w hSw
      (try dsimp only at hSw)
      first | (go_simp; done) | (go_simp; with_reducible rfl)
    (try simp only [Act.put, List.setIfInBounds_toArray, List.set_cons_zero, List.set_cons_succ])
    refine wpAnyH_take (i := 7) (oi := { dst := some 47, op := Op.load 48 (Operand.tmp 46), type := 48, pos := "l07_deltas.go:85", after := #[{ on := 6, ground := Ground.data }, { on := 2, ground := Ground.guard }], guard := some (2, true) }) (v := ?_) rfl (by kernel_rfl) (by kernel_rfl) (by kernel_rfl) (fun _ _ _ h => h) (Or.inl ⟨by rfl, ?_⟩) (by assumption) ?_
    rotate_left
    · intro w hSw
      (try dsimp only at hSw)
      first | (go_simp; done) | (go_simp; with_reducible rfl)
    (try simp only [Act.put, List.setIfInBounds_toArray, List.set_cons_zero, List.set_cons_succ])
    refine wpAnyH_take (i := 9) (oi := { dst := some 49, op := Op.fieldAddr 30 (Operand.tmp 3) 1, type := 0, pos := "l07_deltas.go:85", after := #[{ on := 2, ground := Ground.guard }], guard := some (2, true) }) (v := ?_) rfl (by kernel_rfl) (by kernel_rfl) (by kernel_rfl) (fun _ _ _ h => h) (Or.inl ⟨by rfl, ?_⟩) (by assumption) ?_
    rotate_left
    · intro w hSw
      (try dsimp only at hSw)
      first | (go_simp; done) | (go_simp; with_reducible rfl)
    (try simp only [Act.put, List.setIfInBounds_toArray, List.set_cons_zero, List.set_cons_succ])
    refine wpAnyH_take (i := 10) (oi := { dst := some 50, op := Op.load 28 (Operand.tmp 49), type := 28, pos := "l07_deltas.go:85", after := #[{ on := 9, ground := Ground.data }, { on := 2, ground := Ground.guard }], guard := some (2, true) }) (v := ?_) rfl (by kernel_rfl) (by kernel_rfl) (by kernel_rfl) (fun _ _ _ h => h) (Or.inl ⟨by rfl, ?_⟩) (by assumption) ?_
    rotate_left
    · intro w hSw
      (try dsimp only at hSw)
      first | (go_simp; done) | (go_simp; with_reducible rfl)
    (try simp only [Act.put, List.setIfInBounds_toArray, List.set_cons_zero, List.set_cons_succ])
    refine wpAnyH_take (i := 11) (oi := { dst := some 51, op := Op.move (Operand.tmp 6), type := 3, pos := "l07_deltas.go:85", after := #[{ on := 2, ground := Ground.guard }], guard := some (2, true) }) (v := ?_) rfl (by kernel_rfl) (by kernel_rfl) (by kernel_rfl) (fun _ _ _ h => h) (Or.inl ⟨by rfl, ?_⟩) (by assumption) ?_
    rotate_left
    · intro w hSw
      (try dsimp only at hSw)
      first | (go_simp; done) | (go_simp; with_reducible rfl)
    (try simp only [Act.put, List.setIfInBounds_toArray, List.set_cons_zero, List.set_cons_succ])
    refine wpAnyH_take (i := 12) (oi := { dst := some 52, op := Op.indexAddr 28 (Operand.tmp 50) (Operand.tmp 51), type := 0, pos := "l07_deltas.go:85", after := #[{ on := 10, ground := Ground.data }, { on := 11, ground := Ground.data }, { on := 2, ground := Ground.guard }], guard := some (2, true) }) (v := ?_) rfl (by kernel_rfl) (by kernel_rfl) (by kernel_rfl) (fun _ _ _ h => h) (Or.inl ⟨by rfl, ?_⟩) (by assumption) ?_
    rotate_left
    · intro w hSw
      (try dsimp only at hSw)
      first | (go_simp; done) | (go_simp; with_reducible rfl)
    (try simp only [Act.put, List.setIfInBounds_toArray, List.set_cons_zero, List.set_cons_succ])
    refine wpAnyH_take (i := 13) (oi := { dst := some 53, op := Op.load 48 (Operand.tmp 52), type := 48, pos := "l07_deltas.go:85", after := #[{ on := 12, ground := Ground.data }, { on := 2, ground := Ground.guard }], guard := some (2, true) }) (v := ?_) rfl (by kernel_rfl) (by kernel_rfl) (by kernel_rfl) (fun _ _ _ h => h) (Or.inl ⟨by rfl, ?_⟩) (by assumption) ?_
    rotate_left
    · intro w hSw
      (try dsimp only at hSw)
      first | (go_simp; done) | (go_simp; with_reducible rfl)
    (try simp only [Act.put, List.setIfInBounds_toArray, List.set_cons_zero, List.set_cons_succ])
    refine wpAnyH_ready (rs := [8]) (by kernel_rfl) (by simp) ?_
    refine AllReadyH.cons (o := { dst := some 48, op := Op.call { callee := Callee.value (Operand.func 47), args := #[Operand.tmp 47], argTypes := #[48] }, type := 4, pos := "l07_deltas.go:85", after := #[{ on := 7, ground := Ground.data }, { on := 2, ground := Ground.chain }, { on := 2, ground := Ground.guard }], guard := some (2, true) }) rfl (fun K hK => ?_) AllReadyH.nil
    go_simp
    go_at_call 47
    refine (l3Live y.dev y.seq y.stamp y.kind y.item y.qty y.level y.undos _ huy).mono ?_
    rintro e y1 ⟨rfl, hby1⟩
    rw [HLy.out]
    have hSy1 : y1.cell? ⟨w.heap.size, 1, none⟩ = some (.slice (some ⟨b2, off2, none⟩) no co) ∧ y1.cell? ⟨w.heap.size + 1, 1, none⟩ = some (.slice (some ⟨b, off, none⟩) mo eo) ∧ y1.cell? ⟨b, off + k * 8, none⟩ = some (.int .i64 x.dev) ∧ y1.cell? ⟨b, off + k * 8 + 1, none⟩ = some (.int .i64 x.seq) ∧ y1.cell? ⟨b, off + k * 8 + 2, none⟩ = some (.int .i64 x.stamp) ∧ y1.cell? ⟨b, off + k * 8 + 3, none⟩ = some (.int .i64 x.kind) ∧ y1.cell? ⟨b, off + k * 8 + 4, none⟩ = some (.string x.item) ∧ y1.cell? ⟨b, off + k * 8 + 5, none⟩ = some (.int .i64 x.qty) ∧ y1.cell? ⟨b, off + k * 8 + 6, none⟩ = some (.int .i64 x.level) ∧ y1.cell? ⟨b, off + k * 8 + 7, none⟩ = some (.int .i64 x.undos) ∧ y1.cell? ⟨b2, off2 + i * 8, none⟩ = some (.int .i64 y.dev) ∧ y1.cell? ⟨b2, off2 + i * 8 + 1, none⟩ = some (.int .i64 y.seq) ∧ y1.cell? ⟨b2, off2 + i * 8 + 2, none⟩ = some (.int .i64 y.stamp) ∧ y1.cell? ⟨b2, off2 + i * 8 + 3, none⟩ = some (.int .i64 y.kind) ∧ y1.cell? ⟨b2, off2 + i * 8 + 4, none⟩ = some (.string y.item) ∧ y1.cell? ⟨b2, off2 + i * 8 + 5, none⟩ = some (.int .i64 y.qty) ∧ y1.cell? ⟨b2, off2 + i * 8 + 6, none⟩ = some (.int .i64 y.level) ∧ y1.cell? ⟨b2, off2 + i * 8 + 7, none⟩ = some (.int .i64 y.undos) := by
      obtain ⟨q0, q1, q2, q3, q4, q5, q6, q7, q8, q9, q10, q11, q12, q13, q14, q15, q16, q17⟩ := hS
      exact ⟨(hby1.cell (block_lt_of_cell q0)).trans q0, (hby1.cell (block_lt_of_cell q1)).trans q1, (hby1.cell (block_lt_of_cell q2)).trans q2, (hby1.cell (block_lt_of_cell q3)).trans q3, (hby1.cell (block_lt_of_cell q4)).trans q4, (hby1.cell (block_lt_of_cell q5)).trans q5, (hby1.cell (block_lt_of_cell q6)).trans q6, (hby1.cell (block_lt_of_cell q7)).trans q7, (hby1.cell (block_lt_of_cell q8)).trans q8, (hby1.cell (block_lt_of_cell q9)).trans q9, (hby1.cell (block_lt_of_cell q10)).trans q10, (hby1.cell (block_lt_of_cell q11)).trans q11, (hby1.cell (block_lt_of_cell q12)).trans q12, (hby1.cell (block_lt_of_cell q13)).trans q13, (hby1.cell (block_lt_of_cell q14)).trans q14, (hby1.cell (block_lt_of_cell q15)).trans q15, (hby1.cell (block_lt_of_cell q16)).trans q16, (hby1.cell (block_lt_of_cell q17)).trans q17⟩
    refine hK.out _ _ hSy1 (fun hHeld2 => ?_)
    clear hK K
    (try simp only [Act.put, List.setIfInBounds_toArray, List.set_cons_zero, List.set_cons_succ])
    refine wpAnyH_ready (rs := [14]) (by kernel_rfl) (by simp) ?_
    refine AllReadyH.cons (o := { dst := some 54, op := Op.call { callee := Callee.value (Operand.func 47), args := #[Operand.tmp 53], argTypes := #[48] }, type := 4, pos := "l07_deltas.go:85", after := #[{ on := 13, ground := Ground.data }, { on := 8, ground := Ground.chain }, { on := 2, ground := Ground.guard }], guard := some (2, true) }) rfl (fun K hK => ?_) AllReadyH.nil
    go_simp
    go_at_call 47
    refine (l3Live x.dev x.seq x.stamp x.kind x.item x.qty x.level x.undos _ hux).mono ?_
    rintro e y2 ⟨rfl, hby2⟩
    rw [HLx.out]
    have hSy2 : y2.cell? ⟨w.heap.size, 1, none⟩ = some (.slice (some ⟨b2, off2, none⟩) no co) ∧ y2.cell? ⟨w.heap.size + 1, 1, none⟩ = some (.slice (some ⟨b, off, none⟩) mo eo) ∧ y2.cell? ⟨b, off + k * 8, none⟩ = some (.int .i64 x.dev) ∧ y2.cell? ⟨b, off + k * 8 + 1, none⟩ = some (.int .i64 x.seq) ∧ y2.cell? ⟨b, off + k * 8 + 2, none⟩ = some (.int .i64 x.stamp) ∧ y2.cell? ⟨b, off + k * 8 + 3, none⟩ = some (.int .i64 x.kind) ∧ y2.cell? ⟨b, off + k * 8 + 4, none⟩ = some (.string x.item) ∧ y2.cell? ⟨b, off + k * 8 + 5, none⟩ = some (.int .i64 x.qty) ∧ y2.cell? ⟨b, off + k * 8 + 6, none⟩ = some (.int .i64 x.level) ∧ y2.cell? ⟨b, off + k * 8 + 7, none⟩ = some (.int .i64 x.undos) ∧ y2.cell? ⟨b2, off2 + i * 8, none⟩ = some (.int .i64 y.dev) ∧ y2.cell? ⟨b2, off2 + i * 8 + 1, none⟩ = some (.int .i64 y.seq) ∧ y2.cell? ⟨b2, off2 + i * 8 + 2, none⟩ = some (.int .i64 y.stamp) ∧ y2.cell? ⟨b2, off2 + i * 8 + 3, none⟩ = some (.int .i64 y.kind) ∧ y2.cell? ⟨b2, off2 + i * 8 + 4, none⟩ = some (.string y.item) ∧ y2.cell? ⟨b2, off2 + i * 8 + 5, none⟩ = some (.int .i64 y.qty) ∧ y2.cell? ⟨b2, off2 + i * 8 + 6, none⟩ = some (.int .i64 y.level) ∧ y2.cell? ⟨b2, off2 + i * 8 + 7, none⟩ = some (.int .i64 y.undos) := by
      obtain ⟨q0, q1, q2, q3, q4, q5, q6, q7, q8, q9, q10, q11, q12, q13, q14, q15, q16, q17⟩ := hSy1
      exact ⟨(hby2.cell (block_lt_of_cell q0)).trans q0, (hby2.cell (block_lt_of_cell q1)).trans q1, (hby2.cell (block_lt_of_cell q2)).trans q2, (hby2.cell (block_lt_of_cell q3)).trans q3, (hby2.cell (block_lt_of_cell q4)).trans q4, (hby2.cell (block_lt_of_cell q5)).trans q5, (hby2.cell (block_lt_of_cell q6)).trans q6, (hby2.cell (block_lt_of_cell q7)).trans q7, (hby2.cell (block_lt_of_cell q8)).trans q8, (hby2.cell (block_lt_of_cell q9)).trans q9, (hby2.cell (block_lt_of_cell q10)).trans q10, (hby2.cell (block_lt_of_cell q11)).trans q11, (hby2.cell (block_lt_of_cell q12)).trans q12, (hby2.cell (block_lt_of_cell q13)).trans q13, (hby2.cell (block_lt_of_cell q14)).trans q14, (hby2.cell (block_lt_of_cell q15)).trans q15, (hby2.cell (block_lt_of_cell q16)).trans q16, (hby2.cell (block_lt_of_cell q17)).trans q17⟩
    refine hK.out _ _ hSy2 (fun hHeld3 => ?_)
    clear hK K
    (try simp only [Act.put, List.setIfInBounds_toArray, List.set_cons_zero, List.set_cons_succ])
    refine wpAnyH_take (i := 15) (oi := { dst := some 55, op := Op.binOp BinOp.neq 4 (Operand.tmp 48) (Operand.tmp 54) 4, type := 4, pos := "l07_deltas.go:85", after := #[{ on := 8, ground := Ground.data }, { on := 14, ground := Ground.data }, { on := 2, ground := Ground.guard }], guard := some (2, true) }) (v := ?_) rfl (by kernel_rfl) (by kernel_rfl) (by kernel_rfl) (fun _ _ _ h => h) (Or.inl ⟨by rfl, ?_⟩) (by assumption) ?_
    rotate_left
    · intro w hSw
      (try dsimp only at hSw)
      first | (go_simp; done) | (go_simp; with_reducible rfl)
    (try simp only [Act.put, List.setIfInBounds_toArray, List.set_cons_zero, List.set_cons_succ])
    refine wpAnyH_take (i := 16) (oi := { dst := some 56, op := Op.pick (Operand.tmp 42) (Operand.tmp 55) (Operand.const (Value.bool false)), type := 4, pos := "l07_deltas.go:85", after := #[{ on := 2, ground := Ground.data }, { on := 15, ground := Ground.data }], guard := none }) (v := ?_) rfl (by kernel_rfl) (by kernel_rfl) (by kernel_rfl) (fun _ _ _ h => h) (Or.inl ⟨by rfl, ?_⟩) (by assumption) ?_
    rotate_left
    · intro w hSw
      (try dsimp only at hSw)
      first | (go_simp; done) | (go_simp; with_reducible rfl)
    (try simp only [Act.put, List.setIfInBounds_toArray, List.set_cons_zero, List.set_cons_succ])
    refine wpAnyH_done (by kernel_rfl) ?_ _
    have hc1 : Below y0.heap.size y0 y1 := Below.mk hby1.os hby1.tape hby1.output hby1.size hby1.block
    have hc2 : Below y0.heap.size y0 y2 := hc1.trans (hby2.mono hc1.size)
    have HBe := Lib.hid (HBd.out.trans (hc2.mono (by omega)))
    have HRe := Lib.hid (own_row_kept HRd.out hc2)
    obtain ⟨q0, q1, q2, q3, q4, q5, q6, q7, q8, q9, q10, q11, q12, q13, q14, q15, q16, q17⟩ := hSy2
    have hsy : w2.heap.size ≤ y2.heap.size := by have := hc2.size; omega
    clear hS hSy1 hHeld hHeld2 hHeld3 hby1 hby2 hc1 hc2 d0 d1 d2 d3 d4 d5 d6 d7 e0 e1 e2 e3 e4 e5 e6 e7 a1 b1 hbq
    cases tb
    · have HE : Hid ((m.take (k + 1)).filter (togB l) = L) := by show _ = _; rw [HSt.out, HTg.out]; rfl
      rw [← HE.out] at HRe
      clear q0 q1 q2 q3 q4 q5 q6 q7 q8 q9 q10 q11 q12 q13 q14 q15 q16 q17
      go_wp2
      go_roundw
      case rel => exact ⟨k + 1, _, by omega, rfl, by go_num, HRe, HBe⟩
      case measure => simp [intOf]; omega
    have HE : Hid ((m.take (k + 1)).filter (togB l) = L ++ [x]) := by show _ = _; rw [HSt.out, HTg.out]; rfl
    have hown1 := HRe.out.alloc (.cells #[.int .i64 x.dev, .int .i64 x.seq, .int .i64 x.stamp, .int .i64 x.kind, .string x.item, .int .i64 x.qty, .int .i64 x.level, .int .i64 x.undos] 48)
    go_wp2_with (at_builtin; refine wpList_append_own _ rfl _ _ 28 rfl (w.heap.size + 2) 48 i0 (.agg #[.int .i64 0, .int .i64 0, .int .i64 0, .int .i64 0, .string ⟨#[]⟩, .int .i64 0, .int .i64 0, .int .i64 0]) 8 72 Try.underlying28 hi0' hz0 hz1 hz2 rfl (by decide) _ _ _ rfl hown1 ⟨y2.heap.size, 0, none⟩ 1 1 (opRow x) rfl ?c0 ?c1 ?c2 ?c3 ?c4 ?c5 ?_)
    case c0 => rfl
    case c1 => exact opRow_new y2 x
    case c2 =>
      intro u hu
      exact opCells_one [x] u (by show u ∈ opRow x ++ []; rw [List.append_nil]; exact hu)
    case c3 => unfold maxLen; omega
    case c4 => omega
    case c5 => simp; omega
    intro v' z2 hown2 hgrow _
    have HB2 := Lib.hid ((HBe.out.alloc (by omega) (.cells #[.int .i64 x.dev, .int .i64 x.seq, .int .i64 x.stamp, .int .i64 x.kind, .string x.item, .int .i64 x.qty, .int .i64 x.level, .int .i64 x.undos] 48)).grown hgrow (by simp; omega) (fun j hj => (hown1.lt j hj).1))
    have HR2 : Hid (z2.ownsRow (w.heap.size + 2) 48 8 v' ((m.take (k + 1)).filter (togB l)).length (opCells ((m.take (k + 1)).filter (togB l)))) := by
      show World.ownsRow _ _ _ _ _ _ _
      rw [HE.out, opCells_snoc, List.length_append]
      exact hown2
    clear hown2 hgrow hown1 HRe q0 q1 q2 q3 q4 q5 q6 q7 q8 q9 q10 q11 q12 q13 q14 q15 q16 q17
    go_wp2
    go_roundw
    case rel => exact ⟨k + 1, _, by omega, rfl, by go_num, HR2, HB2⟩
    case measure => simp [intOf]; omega
end Go.Proofs.Ytcebolkooohjhaa
