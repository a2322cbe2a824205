/- Walks and mathematics that several claims share, part 40. -/
import Derived.Test.YtejhmakfbmhhhaaGreatGw34
import Derived.Test.YtejhmakfbmhhhaaGreatGw38
import Derived.Deep.Cut
namespace Go.Proofs.YtejhmakfbmhhhaaGreat
open Go.RowKit

def qtyN (xs : List Int) (l : List OpV) (item : ByteArray) : Int := lineQ (stateV item (counted xs l))
def savedN (xs : List Int) (l : List OpV) (item : ByteArray) : Bool := lineS (stateV item (counted xs l))
theorem state_no {xs : List Int} {l : List OpV} (h : cartB xs l = false) (item : ByteArray) : stateV item (counted xs l) = StV.zero := by
  unfold counted
  rw [if_neg (by rw [h]; exact Bool.false_ne_true)]
  rfl
theorem state_yes {xs : List Int} {l : List OpV} (h : cartB xs l = true) (item : ByteArray) : stateV item (counted xs l) = ⟨levTo item l l.length, bestTo cntB item l l.length, bestTo plcB item l l.length⟩ := by
  unfold counted
  rw [if_pos h, state_to h item _ (Nat.le_refl _)]
theorem qtyN_no {xs : List Int} {l : List OpV} {item : ByteArray} (h : cartB xs l = false ∨ (cartB xs l = true ∧ ¬ levTo item l l.length % 2 = 1)) : qtyN xs l item = 0 := by
  unfold qtyN
  rcases h with h | ⟨h, h2⟩
  · rw [state_no h]; rfl
  · rw [state_yes h]; exact if_neg h2
theorem savedN_no {xs : List Int} {l : List OpV} {item : ByteArray} (h : cartB xs l = false ∨ (cartB xs l = true ∧ ¬ levTo item l l.length % 2 = 1)) : savedN xs l item = false := by
  unfold savedN
  rcases h with h | ⟨h, h2⟩
  · rw [state_no h]; rfl
  · rw [state_yes h]; exact if_neg h2
theorem qtyN_yes {xs : List Int} {l : List OpV} {item : ByteArray} (h : cartB xs l = true) (h2 : levTo item l l.length % 2 = 1) : qtyN xs l item = (bestTo cntB item l l.length).qty := by
  unfold qtyN
  rw [state_yes h]
  exact if_pos h2
theorem savedN_yes {xs : List Int} {l : List OpV} {item : ByteArray} (h : cartB xs l = true) (h2 : levTo item l l.length % 2 = 1) : savedN xs l item = decide ((bestTo plcB item l l.length).kind = 4) := by
  unfold savedN
  rw [state_yes h]
  exact if_pos h2
theorem Tryz.lineQty (a : ByteArray) (b : Int) (c : Bool) (w : World) : Sem.run Tryz.prog (Instr.field 33 (.agg #[.string a, .int .i64 b, .bool c]) 1) w = .ok (.int .i64 b) w := by kernel_rfl
theorem Tryz.lineSaved (a : ByteArray) (b : Int) (c : Bool) (w : World) : Sem.run Tryz.prog (Instr.field 33 (.agg #[.string a, .int .i64 b, .bool c]) 2) w = .ok (.bool c) w := by kernel_rfl
set_option maxRecDepth 100000 in
set_option maxHeartbeats 10000000 in
theorem implQtyOf (w : World) (B : Nat) (av ao : Option Addr) (nv cv no co : Nat) (xs : List Int) (l : List OpV) (item : ByteArray) (hx : Ints w B av nv xs) (h : Ops w B ao no l) (hB : B ≤ w.heap.size) (hv : nv ≤ 1048576) (hi : item.size ≤ 1048576) (hc : no ≤ co) (hc2 : Fits no co) : Calls Tryz.prog 18 #[.agg #[.slice av nv cv, .slice ao no co], .string item] w fun e w' => e = .returned (.int .i64 (qtyN xs l item)) ∧ Below w.heap.size w w' := by
  have hn1048 : no ≤ 1048576 := hc2.1
  have hb0 : Below w.heap.size w (w.alloc (.cells #[.slice av nv cv, .slice ao no co] 27)) := (Below.refl _ w).alloc (Nat.le_refl _) _
  have HV := Lib.hid (hx.below hb0 hB)
  have HO := Lib.hid (h.below hb0 hB)
  have HB := Lib.hid hb0
  have HX := Lib.hid (boxAt (Below.refl _ (w.alloc (.cells #[.slice av nv cv, .slice ao no co] 27))))
  have hsz : w.heap.size < (w.alloc (.cells #[.slice av nv cv, .slice ao no co] 27)).heap.size := by show _ < (w.heap.push _).size; simp
  clear hx h hb0
  obtain ⟨c0, c1⟩ := pair_cells HX.out
  have HL := Lib.hid (stateV_level item (counted xs l))
  have HN : Hid (qtyN xs l item = lineQ (stateV item (counted xs l))) := rfl
  go_enter Tryz.func18, Tryz.ntmps18
  go_wp2_with fail
  generalize w.alloc (.cells #[.slice av nv cv, .slice ao no co] 27) = w0 at HV HO HB HX hsz c0 c1 ⊢
  refine (stateOfW w0 B av ao nv cv no co xs l item HV.out HO.out (by omega) hv hc hc2).mono ?_
  rintro e w1 ⟨rfl, hb⟩
  have HX1 := Lib.hid ((hb.block _ (Array.getElem?_eq_some_iff.1 HX.out).1).trans HX.out)
  have HV1 := Lib.hid (HV.out.below hb (by omega))
  have HO1 := Lib.hid (HO.out.below hb (by omega))
  have HB1 := Lib.hid (HB.out.trans (hb.mono HB.out.size))
  have hs1 := hb.size
  clear hb c0 c1 HX HV HO HB
  obtain ⟨c0, c1⟩ := pair_cells HX1.out
  generalize stateV item (counted xs l) = s at HL HN ⊢
  go_wp2_with fail
  refine (lineW s item HL.out hi w1).mono ?_
  rintro e w2 ⟨rfl, hb⟩
  have HX2 := Lib.hid ((hb.block _ (Array.getElem?_eq_some_iff.1 HX1.out).1).trans HX1.out)
  have HV2 := Lib.hid (HV1.out.below hb (by omega))
  have HO2 := Lib.hid (HO1.out.below hb (by omega))
  have HB2 := Lib.hid (HB1.out.trans (hb.mono HB1.out.size))
  have hs2 := hb.size
  clear hb c0 c1 HX1 HV1 HO1 HB1
  obtain ⟨c0, c1⟩ := pair_cells HX2.out
  have hfl := Tryz.lineQty (lineI s item) (lineQ s) (lineS s)
  go_wp2
  go_ret
  exact ⟨by rw [HN.out]; rfl, HB2.out⟩
set_option maxRecDepth 100000 in
set_option maxHeartbeats 10000000 in
theorem specQtyOf (w : World) (B : Nat) (av ao : Option Addr) (nv cv no co : Nat) (xs : List Int) (l : List OpV) (item : ByteArray) (hx : Ints w B av nv xs) (h : Ops w B ao no l) (hB : B ≤ w.heap.size) (hv : nv ≤ 1048576) (hn : no ≤ 1048576) (hm : ∀ i, i < no → (atOp l i).item.size ≤ 1048576) : Calls Tryz.prog 27 #[.agg #[.slice av nv cv, .slice ao no co], .string item] w fun e w' => e = .returned (.int .i64 (qtyN xs l item)) ∧ Below w.heap.size w w' := by
  have hb0 : Below w.heap.size w (w.alloc (.cells #[.slice av nv cv, .slice ao no co] 27)) := (Below.refl _ w).alloc (Nat.le_refl _) _
  have HV := Lib.hid (hx.below hb0 hB)
  have HO := Lib.hid (h.below hb0 hB)
  have HB := Lib.hid hb0
  have HX := Lib.hid (boxAt (Below.refl _ (w.alloc (.cells #[.slice av nv cv, .slice ao no co] 27))))
  have hsz : w.heap.size < (w.alloc (.cells #[.slice av nv cv, .slice ao no co] 27)).heap.size := by show _ < (w.heap.push _).size; simp
  clear hx h hb0
  obtain ⟨c0, c1⟩ := pair_cells HX.out
  rcases hcb : cartB xs l with _ | _
  · have HE := Lib.hid (qtyN_no (item := item) (.inl hcb))
    have HC := Lib.hid hcb
    clear hcb
    go_enter Tryz.func27, Tryz.ntmps27
    go_wp2_with fail
    generalize w.alloc (.cells #[.slice av nv cv, .slice ao no co] 27) = w0 at HV HO HB HX hsz c0 c1 ⊢
    refine (specCartOk w0 B av ao nv cv no co xs l HV.out HO.out (by omega) hv hn hm).mono ?_
    rintro e w1 ⟨rfl, hb⟩
    rw [HC.out]
    have HX1 := Lib.hid ((hb.block _ (Array.getElem?_eq_some_iff.1 HX.out).1).trans HX.out)
    have HV1 := Lib.hid (HV.out.below hb (by omega))
    have HO1 := Lib.hid (HO.out.below hb (by omega))
    have HB1 := Lib.hid (HB.out.trans (hb.mono HB.out.size))
    have hs1 := hb.size
    clear hb c0 c1 HX HV HO HB
    obtain ⟨c0, c1⟩ := pair_cells HX1.out
    go_wp2
    go_ret
    exact ⟨by rw [HE.out]; rfl, HB1.out⟩
  have HC := Lib.hid hcb
  by_cases hm1 : levTo item l l.length % 2 = 1
  rotate_left
  · have HE := Lib.hid (qtyN_no (item := item) (.inr ⟨hcb, hm1⟩))
    have HD := Lib.hid (decide_eq_false hm1)
    clear hcb hm1
    go_enter Tryz.func27, Tryz.ntmps27
    go_wp2_with fail
    generalize w.alloc (.cells #[.slice av nv cv, .slice ao no co] 27) = w0 at HV HO HB HX hsz c0 c1 ⊢
    refine (specCartOk w0 B av ao nv cv no co xs l HV.out HO.out (by omega) hv hn hm).mono ?_
    rintro e w1 ⟨rfl, hb⟩
    rw [HC.out]
    have HX1 := Lib.hid ((hb.block _ (Array.getElem?_eq_some_iff.1 HX.out).1).trans HX.out)
    have HV1 := Lib.hid (HV.out.below hb (by omega))
    have HO1 := Lib.hid (HO.out.below hb (by omega))
    have HB1 := Lib.hid (HB.out.trans (hb.mono HB.out.size))
    have hs1 := hb.size
    clear hb c0 c1 HX HV HO HB
    obtain ⟨c0, c1⟩ := pair_cells HX1.out
    go_wp2_with fail
    refine (l5There w1 B av ao nv cv no co xs l item HO1.out (by omega) hn HC.out).mono ?_
    rintro e w2 ⟨rfl, hb⟩
    rw [HD.out]
    have HX2 := Lib.hid ((hb.block _ (Array.getElem?_eq_some_iff.1 HX1.out).1).trans HX1.out)
    have HV2 := Lib.hid (HV1.out.below hb (by omega))
    have HO2 := Lib.hid (HO1.out.below hb (by omega))
    have HB2 := Lib.hid (HB1.out.trans (hb.mono HB1.out.size))
    have hs2 := hb.size
    clear hb c0 c1 HX1 HV1 HO1 HB1
    obtain ⟨c0, c1⟩ := pair_cells HX2.out
    go_wp2
    go_ret
    exact ⟨by rw [HE.out]; rfl, HB2.out⟩
  have HE := Lib.hid (qtyN_yes (item := item) hcb hm1)
  have HD := Lib.hid (decide_eq_true hm1)
  clear hcb hm1
  go_enter Tryz.func27, Tryz.ntmps27
  go_wp2_with fail
  generalize w.alloc (.cells #[.slice av nv cv, .slice ao no co] 27) = w0 at HV HO HB HX hsz c0 c1 ⊢
  refine (specCartOk w0 B av ao nv cv no co xs l HV.out HO.out (by omega) hv hn hm).mono ?_
  rintro e w1 ⟨rfl, hb⟩
  rw [HC.out]
  have HX1 := Lib.hid ((hb.block _ (Array.getElem?_eq_some_iff.1 HX.out).1).trans HX.out)
  have HV1 := Lib.hid (HV.out.below hb (by omega))
  have HO1 := Lib.hid (HO.out.below hb (by omega))
  have HB1 := Lib.hid (HB.out.trans (hb.mono HB.out.size))
  have hs1 := hb.size
  clear hb c0 c1 HX HV HO HB
  obtain ⟨c0, c1⟩ := pair_cells HX1.out
  go_wp2_with fail
  refine (l5There w1 B av ao nv cv no co xs l item HO1.out (by omega) hn HC.out).mono ?_
  rintro e w2 ⟨rfl, hb⟩
  rw [HD.out]
  have HX2 := Lib.hid ((hb.block _ (Array.getElem?_eq_some_iff.1 HX1.out).1).trans HX1.out)
  have HV2 := Lib.hid (HV1.out.below hb (by omega))
  have HO2 := Lib.hid (HO1.out.below hb (by omega))
  have HB2 := Lib.hid (HB1.out.trans (hb.mono HB1.out.size))
  have hs2 := hb.size
  clear hb c0 c1 HX1 HV1 HO1 HB1
  obtain ⟨c0, c1⟩ := pair_cells HX2.out
  go_wp2_with fail
  refine (l5Qty w2 B av ao nv cv no co xs l item HO2.out (by omega) hn HC.out).mono ?_
  rintro e w3 ⟨rfl, hb⟩
  have HX3 := Lib.hid ((hb.block _ (Array.getElem?_eq_some_iff.1 HX2.out).1).trans HX2.out)
  have HV3 := Lib.hid (HV2.out.below hb (by omega))
  have HO3 := Lib.hid (HO2.out.below hb (by omega))
  have HB3 := Lib.hid (HB2.out.trans (hb.mono HB2.out.size))
  have hs3 := hb.size
  clear hb c0 c1 HX2 HV2 HO2 HB2
  obtain ⟨c0, c1⟩ := pair_cells HX3.out
  go_wp2
  go_ret
  exact ⟨by rw [HE.out]; rfl, HB3.out⟩
set_option maxRecDepth 100000 in
set_option maxHeartbeats 10000000 in
theorem implSavedOf (w : World) (B : Nat) (av ao : Option Addr) (nv cv no co : Nat) (xs : List Int) (l : List OpV) (item : ByteArray) (hx : Ints w B av nv xs) (h : Ops w B ao no l) (hB : B ≤ w.heap.size) (hv : nv ≤ 1048576) (hi : item.size ≤ 1048576) (hc : no ≤ co) (hc2 : Fits no co) : Calls Tryz.prog 19 #[.agg #[.slice av nv cv, .slice ao no co], .string item] w fun e w' => e = .returned (.bool (savedN xs l item)) ∧ Below w.heap.size w w' := by
  have hn1048 : no ≤ 1048576 := hc2.1
  have hb0 : Below w.heap.size w (w.alloc (.cells #[.slice av nv cv, .slice ao no co] 27)) := (Below.refl _ w).alloc (Nat.le_refl _) _
  have HV := Lib.hid (hx.below hb0 hB)
  have HO := Lib.hid (h.below hb0 hB)
  have HB := Lib.hid hb0
  have HX := Lib.hid (boxAt (Below.refl _ (w.alloc (.cells #[.slice av nv cv, .slice ao no co] 27))))
  have hsz : w.heap.size < (w.alloc (.cells #[.slice av nv cv, .slice ao no co] 27)).heap.size := by show _ < (w.heap.push _).size; simp
  clear hx h hb0
  obtain ⟨c0, c1⟩ := pair_cells HX.out
  have HL := Lib.hid (stateV_level item (counted xs l))
  have HN : Hid (savedN xs l item = lineS (stateV item (counted xs l))) := rfl
  go_enter Tryz.func19, Tryz.ntmps19
  go_wp2_with fail
  generalize w.alloc (.cells #[.slice av nv cv, .slice ao no co] 27) = w0 at HV HO HB HX hsz c0 c1 ⊢
  refine (stateOfW w0 B av ao nv cv no co xs l item HV.out HO.out (by omega) hv hc hc2).mono ?_
  rintro e w1 ⟨rfl, hb⟩
  have HX1 := Lib.hid ((hb.block _ (Array.getElem?_eq_some_iff.1 HX.out).1).trans HX.out)
  have HV1 := Lib.hid (HV.out.below hb (by omega))
  have HO1 := Lib.hid (HO.out.below hb (by omega))
  have HB1 := Lib.hid (HB.out.trans (hb.mono HB.out.size))
  have hs1 := hb.size
  clear hb c0 c1 HX HV HO HB
  obtain ⟨c0, c1⟩ := pair_cells HX1.out
  generalize stateV item (counted xs l) = s at HL HN ⊢
  go_wp2_with fail
  refine (lineW s item HL.out hi w1).mono ?_
  rintro e w2 ⟨rfl, hb⟩
  have HX2 := Lib.hid ((hb.block _ (Array.getElem?_eq_some_iff.1 HX1.out).1).trans HX1.out)
  have HV2 := Lib.hid (HV1.out.below hb (by omega))
  have HO2 := Lib.hid (HO1.out.below hb (by omega))
  have HB2 := Lib.hid (HB1.out.trans (hb.mono HB1.out.size))
  have hs2 := hb.size
  clear hb c0 c1 HX1 HV1 HO1 HB1
  obtain ⟨c0, c1⟩ := pair_cells HX2.out
  have hfl := Tryz.lineSaved (lineI s item) (lineQ s) (lineS s)
  go_wp2
  go_ret
  exact ⟨by rw [HN.out]; rfl, HB2.out⟩
set_option maxRecDepth 100000 in
set_option maxHeartbeats 10000000 in
theorem specSavedOf (w : World) (B : Nat) (av ao : Option Addr) (nv cv no co : Nat) (xs : List Int) (l : List OpV) (item : ByteArray) (hx : Ints w B av nv xs) (h : Ops w B ao no l) (hB : B ≤ w.heap.size) (hv : nv ≤ 1048576) (hn : no ≤ 1048576) (hm : ∀ i, i < no → (atOp l i).item.size ≤ 1048576) : Calls Tryz.prog 28 #[.agg #[.slice av nv cv, .slice ao no co], .string item] w fun e w' => e = .returned (.bool (savedN xs l item)) ∧ Below w.heap.size w w' := by
  have hb0 : Below w.heap.size w (w.alloc (.cells #[.slice av nv cv, .slice ao no co] 27)) := (Below.refl _ w).alloc (Nat.le_refl _) _
  have HV := Lib.hid (hx.below hb0 hB)
  have HO := Lib.hid (h.below hb0 hB)
  have HB := Lib.hid hb0
  have HX := Lib.hid (boxAt (Below.refl _ (w.alloc (.cells #[.slice av nv cv, .slice ao no co] 27))))
  have hsz : w.heap.size < (w.alloc (.cells #[.slice av nv cv, .slice ao no co] 27)).heap.size := by show _ < (w.heap.push _).size; simp
  clear hx h hb0
  obtain ⟨c0, c1⟩ := pair_cells HX.out
  rcases hcb : cartB xs l with _ | _
  · have HE := Lib.hid (savedN_no (item := item) (.inl hcb))
    have HC := Lib.hid hcb
    clear hcb
    go_enter Tryz.func28, Tryz.ntmps28
    go_wp2_with fail
    generalize w.alloc (.cells #[.slice av nv cv, .slice ao no co] 27) = w0 at HV HO HB HX hsz c0 c1 ⊢
    refine (specCartOk w0 B av ao nv cv no co xs l HV.out HO.out (by omega) hv hn hm).mono ?_
    rintro e w1 ⟨rfl, hb⟩
    rw [HC.out]
    have HX1 := Lib.hid ((hb.block _ (Array.getElem?_eq_some_iff.1 HX.out).1).trans HX.out)
    have HV1 := Lib.hid (HV.out.below hb (by omega))
    have HO1 := Lib.hid (HO.out.below hb (by omega))
    have HB1 := Lib.hid (HB.out.trans (hb.mono HB.out.size))
    have hs1 := hb.size
    clear hb c0 c1 HX HV HO HB
    obtain ⟨c0, c1⟩ := pair_cells HX1.out
    go_wp2
    go_ret
    exact ⟨by rw [HE.out]; rfl, HB1.out⟩
  have HC := Lib.hid hcb
  by_cases hm1 : levTo item l l.length % 2 = 1
  rotate_left
  · have HE := Lib.hid (savedN_no (item := item) (.inr ⟨hcb, hm1⟩))
    have HD := Lib.hid (decide_eq_false hm1)
    clear hcb hm1
    go_enter Tryz.func28, Tryz.ntmps28
    go_wp2_with fail
    generalize w.alloc (.cells #[.slice av nv cv, .slice ao no co] 27) = w0 at HV HO HB HX hsz c0 c1 ⊢
    refine (specCartOk w0 B av ao nv cv no co xs l HV.out HO.out (by omega) hv hn hm).mono ?_
    rintro e w1 ⟨rfl, hb⟩
    rw [HC.out]
    have HX1 := Lib.hid ((hb.block _ (Array.getElem?_eq_some_iff.1 HX.out).1).trans HX.out)
    have HV1 := Lib.hid (HV.out.below hb (by omega))
    have HO1 := Lib.hid (HO.out.below hb (by omega))
    have HB1 := Lib.hid (HB.out.trans (hb.mono HB.out.size))
    have hs1 := hb.size
    clear hb c0 c1 HX HV HO HB
    obtain ⟨c0, c1⟩ := pair_cells HX1.out
    go_wp2_with fail
    refine (l5There w1 B av ao nv cv no co xs l item HO1.out (by omega) hn HC.out).mono ?_
    rintro e w2 ⟨rfl, hb⟩
    rw [HD.out]
    have HX2 := Lib.hid ((hb.block _ (Array.getElem?_eq_some_iff.1 HX1.out).1).trans HX1.out)
    have HV2 := Lib.hid (HV1.out.below hb (by omega))
    have HO2 := Lib.hid (HO1.out.below hb (by omega))
    have HB2 := Lib.hid (HB1.out.trans (hb.mono HB1.out.size))
    have hs2 := hb.size
    clear hb c0 c1 HX1 HV1 HO1 HB1
    obtain ⟨c0, c1⟩ := pair_cells HX2.out
    go_wp2
    go_ret
    exact ⟨by rw [HE.out]; rfl, HB2.out⟩
  have HE := Lib.hid (savedN_yes (item := item) hcb hm1)
  have HD := Lib.hid (decide_eq_true hm1)
  clear hcb hm1
  go_enter Tryz.func28, Tryz.ntmps28
  go_wp2_with fail
  generalize w.alloc (.cells #[.slice av nv cv, .slice ao no co] 27) = w0 at HV HO HB HX hsz c0 c1 ⊢
  refine (specCartOk w0 B av ao nv cv no co xs l HV.out HO.out (by omega) hv hn hm).mono ?_
  rintro e w1 ⟨rfl, hb⟩
  rw [HC.out]
  have HX1 := Lib.hid ((hb.block _ (Array.getElem?_eq_some_iff.1 HX.out).1).trans HX.out)
  have HV1 := Lib.hid (HV.out.below hb (by omega))
  have HO1 := Lib.hid (HO.out.below hb (by omega))
  have HB1 := Lib.hid (HB.out.trans (hb.mono HB.out.size))
  have hs1 := hb.size
  clear hb c0 c1 HX HV HO HB
  obtain ⟨c0, c1⟩ := pair_cells HX1.out
  go_wp2_with fail
  refine (l5There w1 B av ao nv cv no co xs l item HO1.out (by omega) hn HC.out).mono ?_
  rintro e w2 ⟨rfl, hb⟩
  rw [HD.out]
  have HX2 := Lib.hid ((hb.block _ (Array.getElem?_eq_some_iff.1 HX1.out).1).trans HX1.out)
  have HV2 := Lib.hid (HV1.out.below hb (by omega))
  have HO2 := Lib.hid (HO1.out.below hb (by omega))
  have HB2 := Lib.hid (HB1.out.trans (hb.mono HB1.out.size))
  have hs2 := hb.size
  clear hb c0 c1 HX1 HV1 HO1 HB1
  obtain ⟨c0, c1⟩ := pair_cells HX2.out
  go_wp2_with fail
  refine (l5Saved w2 B av ao nv cv no co xs l item HO2.out (by omega) hn HC.out).mono ?_
  rintro e w3 ⟨rfl, hb⟩
  have HX3 := Lib.hid ((hb.block _ (Array.getElem?_eq_some_iff.1 HX2.out).1).trans HX2.out)
  have HV3 := Lib.hid (HV2.out.below hb (by omega))
  have HO3 := Lib.hid (HO2.out.below hb (by omega))
  have HB3 := Lib.hid (HB2.out.trans (hb.mono HB2.out.size))
  have hs3 := hb.size
  clear hb c0 c1 HX2 HV2 HO2 HB2
  obtain ⟨c0, c1⟩ := pair_cells HX3.out
  go_wp2
  go_ret
  exact ⟨by rw [HE.out]; rfl, HB3.out⟩
end Go.Proofs.YtejhmakfbmhhhaaGreat
