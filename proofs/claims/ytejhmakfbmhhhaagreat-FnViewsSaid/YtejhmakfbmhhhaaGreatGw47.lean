/- Walks and mathematics that several claims share, part 47. -/
import Derived.Test.YtejhmakfbmhhhaaGreatGw44
import Derived.Test.YtejhmakfbmhhhaaGreatGw43
namespace Go.Proofs.YtejhmakfbmhhhaaGreat
open Go.RowKit

set_option maxRecDepth 100000 in
set_option maxHeartbeats 20000000 in
theorem implTotal (w : World) (B : Nat) (av ao : Option Addr) (nv cv no co : Nat) (xs : List Int) (l : List OpV) (hx : Ints w B av nv xs) (h : Ops w B ao no l) (hB : B ≤ w.heap.size) (hv : nv ≤ 1048576) (hc : no ≤ co) (hc2 : Fits no co) (hm : ∀ o ∈ l, o.item.size ≤ 1048576) : Calls Tryz.prog 9 #[.agg #[.slice av nv cv, .slice ao no co]] w fun e w' => e = .returned (.int .i64 (totalN xs l)) ∧ Below w.heap.size w w' := by
  have hb0 : Below w.heap.size w (w.alloc (.cells #[.slice av nv cv, .slice ao no co] 27)) := (Below.refl _ w).alloc (Nat.le_refl _) _
  have HV := Lib.hid (hx.below hb0 hB)
  have HO := Lib.hid (h.below hb0 hB)
  have HB := Lib.hid hb0
  clear hx h hb0
  go_enter Tryz.func9, Tryz.ntmps9
  go_wp2_with fail
  generalize w.alloc (.cells #[.slice av nv cv, .slice ao no co] 27) = w0 at HV HO HB ⊢
  refine (implLines w0 B av ao nv cv no co xs l HV.out HO.out (Nat.le_trans hB HB.out.size) hv hc hc2 hm).mono ?_
  rintro e w1 ⟨a, c, rfl, hls, hb⟩
  have HB1 := Lib.hid (HB.out.trans (hb.mono HB.out.size))
  have HQ : Hid (∀ k, k < (linesN xs l).length → 0 ≤ ((linesN xs l).getD k LnV.zero).qty ∧ ((linesN xs l).getD k LnV.zero).qty ≤ 999) := fun k hk => linesN_qty hk
  have HTt : Hid (totalN xs l = totTo (linesN xs l) (linesN xs l).length) := rfl
  have hll : (linesN xs l).length ≤ 160 := by unfold linesN; rw [List.length_map]; exact itemsN_len
  generalize linesN xs l = L at hls HQ HTt hll ⊢
  have HL := Lib.hid hls.rows
  clear hls hb HV HO HB
  go_wp2
  go_loopw [3, 9] (fun s i wr => ∃ (k : Nat) (z : Int), k ≤ L.length ∧ i = .int .i64 (k : Int) ∧ s = .int .i64 z ∧ Hid (totTo L k = z) ∧ Hid (Below w1.heap.size w1 wr)) (fun _ i _ => L.length - (intOf i).toNat)
  case atStart => exact ⟨0, 0, Nat.zero_le _, rfl, rfl, rfl, Below.refl _ _⟩
  case round =>
    obtain ⟨k, z, hk, rfl, rfl, HZ, HBr⟩ := hrel
    by_cases hlt : k < L.length
    rotate_left
    · obtain rfl : k = L.length := by omega
      have HF : Hid (totalN xs l = z) := HTt.out.trans HZ.out
      have HBf := Lib.hid (HB1.out.trans (HBr.out.mono HB1.out.size))
      go_wp2
      go_ret
      exact ⟨by rw [HF.out]; rfl, HBf.out⟩
    obtain ⟨b, off, rfl, hb, ho⟩ := (HL.out.below HBr.out (Nat.le_refl _)).2 k hlt
    obtain ⟨d0, d1, d2⟩ := ho
    have hki : (k : Int) < (L.length : Int) := by omega
    have hq := HQ.out k hlt
    have hz := totTo_bound HQ.out k (by omega)
    rw [HZ.out] at hz
    have HStep := Lib.hid (totTo_step L k)
    generalize L.getD k LnV.zero = y at d0 d1 d2 hq HStep
    obtain ⟨hq1, hq2⟩ := hq
    obtain ⟨hz1, hz2⟩ := hz
    have HBn : Hid (∀ C, Below w1.heap.size w1 (wr.alloc C)) := fun C => HBr.out.alloc HBr.out.size C
    rcases hsv : y.saved with _ | _
    · have HE : Hid (totTo L (k + 1) = z + y.qty) := by show _ = _; rw [HStep.out, hsv, HZ.out]; rfl
      rw [hsv] at d2
      clear hsv HStep
      go_wp2
      go_roundw
      case rel => exact ⟨k + 1, z + y.qty, by omega, by go_num, rfl, HE, HBn.out _⟩
      case measure => simp [intOf]; omega
    · have HE : Hid (totTo L (k + 1) = z) := by show _ = _; rw [HStep.out, hsv, HZ.out]; rfl
      rw [hsv] at d2
      clear hsv HStep
      go_wp2
      go_roundw
      case rel => exact ⟨k + 1, z, by omega, by go_num, rfl, HE, HBn.out _⟩
      case measure => simp [intOf]; omega
theorem linesN_item (xs : List Int) (l : List OpV) : (linesN xs l).map (·.item) = itemsN xs l := by
  unfold linesN
  rw [List.map_map]
  exact List.map_id' _
theorem take_item (L : List LnV) {k : Nat} (h : k < L.length) : (L.take (k + 1)).map (·.item) = (L.take k).map (·.item) ++ [(L.getD k LnV.zero).item] := by
  rw [List.take_succ_eq_append_getElem h, List.map_append, List.getD_eq_getElem?_getD, List.getElem?_eq_getElem h]
  rfl
set_option maxRecDepth 100000 in
set_option maxHeartbeats 20000000 in
theorem implItems (w : World) (B : Nat) (av ao : Option Addr) (nv cv no co : Nat) (xs : List Int) (l : List OpV) (hx : Ints w B av nv xs) (h : Ops w B ao no l) (hB : B ≤ w.heap.size) (hv : nv ≤ 1048576) (hc : no ≤ co) (hc2 : Fits no co) (hm : ∀ o ∈ l, o.item.size ≤ 1048576) : Calls Tryz.prog 13 #[.agg #[.slice av nv cv, .slice ao no co]] w (ItemsPost (itemsN xs l) w) := by
  have hb0 : Below w.heap.size w (w.alloc (.cells #[.slice av nv cv, .slice ao no co] 27)) := (Below.refl _ w).alloc (Nat.le_refl _) _
  have HV := Lib.hid (hx.below hb0 hB)
  have HO := Lib.hid (h.below hb0 hB)
  have HB := Lib.hid hb0
  clear hx h hb0
  go_enter Tryz.func13, Tryz.ntmps13
  go_wp2_with fail
  generalize w.alloc (.cells #[.slice av nv cv, .slice ao no co] 27) = w0 at HV HO HB ⊢
  refine (implLines w0 B av ao nv cv no co xs l HV.out HO.out (Nat.le_trans hB HB.out.size) hv hc hc2 hm).mono ?_
  rintro e w1 ⟨a, c, rfl, hls, hb⟩
  have HB1 := Lib.hid (HB.out.trans (hb.mono HB.out.size))
  have hll : (linesN xs l).length ≤ 160 := by unfold linesN; rw [List.length_map]; exact itemsN_len
  have HIe := Lib.hid (linesN_item xs l)
  generalize linesN xs l = L at hls hll HIe ⊢
  have HL := Lib.hid hls.rows
  have HTk : Hid (∀ k, k < L.length → (L.take (k + 1)).map (·.item) = (L.take k).map (·.item) ++ [(L.getD k LnV.zero).item]) := fun k hk => take_item L hk
  have HR1 : Hid (w1.ownsRow w1.heap.size 9 1 (.slice none 0 0) 0 (((L.take 0).map (·.item)).map Value.string)) := ⟨rfl, .inl ⟨rfl, rfl⟩⟩
  clear hls hb HV HO HB
  go_wp2
  go_loopw [3, 9] (fun v i wr => ∃ (k : Nat) (vv : Value), k ≤ L.length ∧ i = .int .i64 (k : Int) ∧ vv = v ∧ Hid (wr.ownsRow w1.heap.size 9 1 vv k (((L.take k).map (·.item)).map Value.string)) ∧ Hid (Below w1.heap.size w1 wr)) (fun _ i _ => L.length - (intOf i).toNat)
  case atStart => exact ⟨0, _, Nat.zero_le _, rfl, rfl, HR1, Below.refl _ _⟩
  case round =>
    obtain ⟨k, v, hk, rfl, rfl, HR, HBr⟩ := hrel
    clear HR1
    by_cases hlt : k < L.length
    rotate_left
    · obtain rfl : k = L.length := by omega
      have hr := HR.out
      rw [List.take_length, HIe.out] at hr
      obtain ⟨a2, c2, hv4, hown⟩ := ownStrs_of_row hr
      subst hv4
      have hle : (itemsN xs l).length = L.length := by rw [← HIe.out, List.length_map]
      have HOw := Lib.hid (hown.more HB1.out.size (Nat.le_refl _))
      have HLe := Lib.hid hle
      have HBf := Lib.hid (HB1.out.trans (HBr.out.mono HB1.out.size))
      clear hown hr HR hle
      go_wp2
      go_ret
      exact ⟨a2, c2, by rw [HLe.out]; rfl, by rw [HLe.out]; exact HOw.out, HBf.out⟩
    obtain ⟨b, off, rfl, hb, ho⟩ := (HL.out.below HBr.out (Nat.le_refl _)).2 k hlt
    obtain ⟨d0, d1, d2⟩ := ho
    have hki : (k : Int) < (L.length : Int) := by omega
    have HStep := Lib.hid (HTk.out k hlt)
    generalize L.getD k LnV.zero = y at d0 d1 d2 HStep
    have hbA : Below wr.heap.size wr (wr.alloc (.cells #[.string y.item, .int .i64 y.qty, .bool y.saved] 33)) := (Below.refl _ _).alloc (Nat.le_refl _) _
    have hrA := HR.out.alloc (.cells #[.string y.item, .int .i64 y.qty, .bool y.saved] 33)
    go_upto_region 5 with fail
    have hX := boxAt (Below.refl _ (wr.alloc (.cells #[.string y.item, .int .i64 y.qty, .bool y.saved] 33)))
    generalize wr.alloc (.cells #[.string y.item, .int .i64 y.qty, .bool y.saved] 33) = w2 at hbA hrA hX ⊢
    have hrB := hrA.alloc (.cells #[.string y.item] 9)
    have hbB : Below w1.heap.size w2 (w2.alloc (.cells #[.string y.item] 9)) := (Below.refl _ _).alloc (Nat.le_trans HBr.out.size hbA.size) _
    obtain ⟨v6, w3, hrun, hr3, hg3⟩ := appStrs _ w1.heap.size v k _ hrB (w2.heap.size + 1) (some ⟨w2.heap.size, 0, none⟩) 1 1 [y.item] (one_strI w2 y.item) (fun h => by cases h) (by omega) (Nat.le_trans (Nat.le_trans HBr.out.size hbA.size) hbB.size)
    have HR3 : Hid (w3.ownsRow w1.heap.size 9 1 v6 (k + 1) (((L.take (k + 1)).map (·.item)).map Value.string)) := by
      show World.ownsRow _ _ _ _ _ _ _
      rw [HStep.out]
      exact hr3
    have HB3 : Hid (Below w1.heap.size w1 w3) := (HBr.out.trans (hbA.mono HBr.out.size)).trans (hbB.grown hg3 (Nat.le_trans (Nat.le_trans HBr.out.size hbA.size) hbB.size) (fun j hj => (hrB.lt j hj).1))
    have e0 : w2.cell? ⟨wr.heap.size, 0, none⟩ = some (.string y.item) := cell_of_row _ _ _ _ _ _ hX
    clear hr3 hg3 hrA hrB hbA hbB hX d0 d1 d2
    go_upto_region 6 with (at_builtin; refine wpListApp rfl _ _ _ rfl _ _ rfl rfl hrun ?_)
    go_wp2
    go_roundw
    case rel => exact ⟨k + 1, _, by omega, by go_num, rfl, HR3, HB3⟩
    case measure => simp [intOf]; omega
end Go.Proofs.YtejhmakfbmhhhaaGreat
