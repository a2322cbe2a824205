/- The walks of QtyOf and SavedOf, the model's and the program's. -/
import Derived.Test.YtideaompdbdbhaaLastW
import Derived.Test.YtideaompdbdbhaaLineW
import Derived.Deep.Cut
namespace Go.Proofs.Ytideaompdbdbhaa
open Go.RowKit

theorem kin_cnt : kindIn [1, 2] = cntB := by
  funext k
  rw [Bool.eq_iff_iff]
  simp [kindIn, cntB]
  omega
theorem kin_plc : kindIn [1, 4, 5] = plcB := by
  funext k
  rw [Bool.eq_iff_iff]
  simp [kindIn, plcB]
  omega
theorem levTo_pos (item : ByteArray) (l : List OpV) : ∀ k, 0 ≤ levTo item l k
  | 0 => Int.le_refl _
  | k + 1 => by
    have := levTo_pos item l k
    rw [levTo]
    split <;> omega
def qtyN (xs : List Int) (l : List OpV) (item : ByteArray) : Int := lineQ (stateV item (counted xs l))
def savedN (xs : List Int) (l : List OpV) (item : ByteArray) : Bool := lineS (stateV item (counted xs l))
theorem state_no {xs : List Int} {l : List OpV} (h : cartB xs l = false) (item : ByteArray) : stateV item (counted xs l) = StV.zero := by
  unfold counted
  rw [if_neg (by rw [h]; exact Bool.false_ne_true)]
  rfl
theorem state_yes {xs : List Int} {l : List OpV} (h : cartB xs l = true) (item : ByteArray) : stateV item (counted xs l) = ⟨levTo item l l.length, bestTo cntB item l l.length, bestTo plcB item l l.length⟩ := by
  unfold counted
  rw [if_pos h, state_to h item _ (Nat.le_refl _)]
theorem qtyN_no {xs : List Int} {l : List OpV} {item : ByteArray} (h : cartB xs l = false ∨ (cartB xs l = true ∧ ¬ levTo item l l.length % 2 = 1)) : qtyN xs l item = 0 := by
  unfold qtyN
  rcases h with h | ⟨h, h2⟩
  · rw [state_no h]; rfl
  · rw [state_yes h]; exact if_neg h2
theorem savedN_no {xs : List Int} {l : List OpV} {item : ByteArray} (h : cartB xs l = false ∨ (cartB xs l = true ∧ ¬ levTo item l l.length % 2 = 1)) : savedN xs l item = false := by
  unfold savedN
  rcases h with h | ⟨h, h2⟩
  · rw [state_no h]; rfl
  · rw [state_yes h]; exact if_neg h2
theorem qtyN_yes {xs : List Int} {l : List OpV} {item : ByteArray} (h : cartB xs l = true) (h2 : levTo item l l.length % 2 = 1) : qtyN xs l item = (bestTo cntB item l l.length).qty := by
  unfold qtyN
  rw [state_yes h]
  exact if_pos h2
theorem savedN_yes {xs : List Int} {l : List OpV} {item : ByteArray} (h : cartB xs l = true) (h2 : levTo item l l.length % 2 = 1) : savedN xs l item = decide ((bestTo plcB item l l.length).kind = 4) := by
  unfold savedN
  rw [state_yes h]
  exact if_pos h2
theorem Try.fieldQty (o : OpV) (w : World) : Sem.run Try.prog (Instr.field 54 o.val 5) w = .ok (.int .i64 o.qty) w := by kernel_rfl
theorem Try.fieldKind (o : OpV) (w : World) : Sem.run Try.prog (Instr.field 54 o.val 3) w = .ok (.int .i64 o.kind) w := by kernel_rfl
theorem Try.lineQty (a : ByteArray) (b : Int) (c : Bool) (w : World) : Sem.run Try.prog (Instr.field 61 (.agg #[.string a, .int .i64 b, .bool c]) 1) w = .ok (.int .i64 b) w := by kernel_rfl
theorem Try.lineSaved (a : ByteArray) (b : Int) (c : Bool) (w : World) : Sem.run Try.prog (Instr.field 61 (.agg #[.string a, .int .i64 b, .bool c]) 2) w = .ok (.bool c) w := by kernel_rfl
set_option maxRecDepth 100000 in
set_option maxHeartbeats 2000000 in
theorem l5There (w : World) (B : Nat) (av ao : Option Addr) (nv cv no co : Nat) (xs : List Int) (l : List OpV) (item : ByteArray) (h : Ops w B ao no l) (hB : B ≤ w.heap.size) (hn : no ≤ 1048576) (hc : cartB xs l = true) : Calls Try.prog 41 #[.agg #[.slice av nv cv, .slice ao no co], .string item] w fun e w' => e = .returned (.bool (decide (levTo item l l.length % 2 = 1))) ∧ Below w.heap.size w w' := by
  have HP := Lib.hid (levTo_pos item l l.length)
  have HC := Lib.hid hc
  clear hc
  have hb0 : Below w.heap.size w (w.alloc (.cells #[.slice av nv cv, .slice ao no co] 37)) := (Below.refl _ w).alloc (Nat.le_refl _) _
  have HO := Lib.hid (h.below hb0 hB)
  have HB := Lib.hid hb0
  have HX := Lib.hid (boxAt (Below.refl _ (w.alloc (.cells #[.slice av nv cv, .slice ao no co] 37))))
  have hsz : w.heap.size < (w.alloc (.cells #[.slice av nv cv, .slice ao no co] 37)).heap.size := by show _ < (w.heap.push _).size; simp
  clear h hb0
  obtain ⟨c0, c1⟩ := pair_cells HX.out
  by_cases hm : levTo item l l.length % 2 = 1
  · have hmb : (levTo item l l.length % 2 == 1) = true := by rw [hm]; rfl
    have HD := Lib.hid (decide_eq_true hm)
    clear hm
    go_enter Try.func41, Try.ntmps41
    go_wp2_with fail
    generalize w.alloc (.cells #[.slice av nv cv, .slice ao no co] 37) = w0 at HO HB HX hsz c0 c1 ⊢
    refine (l5Level w0 B av ao nv cv no co xs l item HO.out (by omega) hn HC.out).mono ?_
    rintro e w1 ⟨rfl, hb⟩
    have HB1 := Lib.hid (HB.out.trans (hb.mono HB.out.size))
    have hp := HP.out
    clear hb c0 c1
    generalize levTo item l l.length = u at hmb hp ⊢
    go_wp2
    go_ret
    exact ⟨by rw [HD.out]; rfl, HB1.out⟩
  · have hmb : (levTo item l l.length % 2 == 1) = false := by rw [beq_eq_false_iff_ne]; exact hm
    have HD := Lib.hid (decide_eq_false hm)
    clear hm
    go_enter Try.func41, Try.ntmps41
    go_wp2_with fail
    generalize w.alloc (.cells #[.slice av nv cv, .slice ao no co] 37) = w0 at HO HB HX hsz c0 c1 ⊢
    refine (l5Level w0 B av ao nv cv no co xs l item HO.out (by omega) hn HC.out).mono ?_
    rintro e w1 ⟨rfl, hb⟩
    have HB1 := Lib.hid (HB.out.trans (hb.mono HB.out.size))
    have hp := HP.out
    clear hb c0 c1
    generalize levTo item l l.length = u at hmb hp ⊢
    go_wp2
    go_ret
    exact ⟨by rw [HD.out]; rfl, HB1.out⟩
set_option maxRecDepth 100000 in
set_option maxHeartbeats 2000000 in
theorem l5Qty (w : World) (B : Nat) (av ao : Option Addr) (nv cv no co : Nat) (xs : List Int) (l : List OpV) (item : ByteArray) (h : Ops w B ao no l) (hB : B ≤ w.heap.size) (hn : no ≤ 1048576) (hc : cartB xs l = true) : Calls Try.prog 42 #[.agg #[.slice av nv cv, .slice ao no co], .string item] w fun e w' => e = .returned (.int .i64 (bestTo cntB item l l.length).qty) ∧ Below w.heap.size w w' := by
  have HC := Lib.hid hc
  clear hc
  have hb0 : Below w.heap.size w (w.alloc (.cells #[.slice av nv cv, .slice ao no co] 37)) := (Below.refl _ w).alloc (Nat.le_refl _) _
  have HO := Lib.hid (h.below hb0 hB)
  have HB := Lib.hid hb0
  have HX := Lib.hid (boxAt (Below.refl _ (w.alloc (.cells #[.slice av nv cv, .slice ao no co] 37))))
  have hsz : w.heap.size < (w.alloc (.cells #[.slice av nv cv, .slice ao no co] 37)).heap.size := by show _ < (w.heap.push _).size; simp
  clear h hb0
  obtain ⟨c0, c1⟩ := pair_cells HX.out
  go_enter Try.func42, Try.ntmps42
  go_wp2_with fail
  have hsz1 : (w.alloc (.cells #[.slice av nv cv, .slice ao no co] 37)).heap.size = w.heap.size + 1 := by simp
  generalize w.alloc (.cells #[.slice av nv cv, .slice ao no co] 37) = w0 at HO HB HX hsz c0 c1 hsz1 ⊢
  have hkb0 := boxAt (Below.refl _ (w0.alloc (.cells #[.int .i64 1, .int .i64 2] 2)))
  have hbk : Below w0.heap.size w0 (w0.alloc (.cells #[.int .i64 1, .int .i64 2] 2)) := (Below.refl _ _).alloc (Nat.le_refl _) _
  have HO1 := Lib.hid (HO.out.below hbk (by omega))
  have HB1 := Lib.hid (HB.out.trans (hbk.mono HB.out.size))
  have hs1 := hbk.size
  generalize w0.alloc (.cells #[.int .i64 1, .int .i64 2] 2) = w1 at hkb0 HO1 HB1 hs1 ⊢
  rw [hsz1] at hkb0
  have HKb := Lib.hid hkb0
  have HKl : Hid (w.heap.size + 1 < w1.heap.size) := (Array.getElem?_eq_some_iff.1 hkb0).1
  clear hkb0 hsz1 hbk c0 c1
  refine (l5Last w1 w1.heap.size av ao nv cv no co xs l item _ 2 _ [1, 2] (ints_of_block (xs := [1, 2]) HKb.out HKl.out rfl) (by omega) (HO1.out.more (by omega)) (Nat.le_refl _) hn HC.out).mono ?_
  rintro e w2 ⟨rfl, hb⟩
  have HB2 := Lib.hid (HB1.out.trans (hb.mono HB1.out.size))
  clear hb HKb
  rw [kin_cnt]
  generalize hoe : bestTo cntB item l l.length = o
  have HOe := Lib.hid hoe
  clear hoe
  have hfl := Try.fieldQty o
  go_wp2
  go_ret
  exact ⟨by rw [HOe.out]; rfl, HB2.out⟩
set_option maxRecDepth 100000 in
set_option maxHeartbeats 2000000 in
theorem l5Saved (w : World) (B : Nat) (av ao : Option Addr) (nv cv no co : Nat) (xs : List Int) (l : List OpV) (item : ByteArray) (h : Ops w B ao no l) (hB : B ≤ w.heap.size) (hn : no ≤ 1048576) (hc : cartB xs l = true) : Calls Try.prog 44 #[.agg #[.slice av nv cv, .slice ao no co], .string item] w fun e w' => e = .returned (.bool (decide ((bestTo plcB item l l.length).kind = 4))) ∧ Below w.heap.size w w' := by
  have HC := Lib.hid hc
  clear hc
  have hb0 : Below w.heap.size w (w.alloc (.cells #[.slice av nv cv, .slice ao no co] 37)) := (Below.refl _ w).alloc (Nat.le_refl _) _
  have HO := Lib.hid (h.below hb0 hB)
  have HB := Lib.hid hb0
  have HX := Lib.hid (boxAt (Below.refl _ (w.alloc (.cells #[.slice av nv cv, .slice ao no co] 37))))
  have hsz : w.heap.size < (w.alloc (.cells #[.slice av nv cv, .slice ao no co] 37)).heap.size := by show _ < (w.heap.push _).size; simp
  clear h hb0
  obtain ⟨c0, c1⟩ := pair_cells HX.out
  by_cases hk : (bestTo plcB item l l.length).kind = 4
  · have hkb : ((bestTo plcB item l l.length).kind == 4) = true := by rw [hk]; rfl
    have HD := Lib.hid (decide_eq_true hk)
    clear hk
    go_enter Try.func44, Try.ntmps44
    go_wp2_with fail
    have hsz1 : (w.alloc (.cells #[.slice av nv cv, .slice ao no co] 37)).heap.size = w.heap.size + 1 := by simp
    generalize w.alloc (.cells #[.slice av nv cv, .slice ao no co] 37) = w0 at HO HB HX hsz c0 c1 hsz1 ⊢
    have hkb0 := boxAt (Below.refl _ (w0.alloc (.cells #[.int .i64 1, .int .i64 4, .int .i64 5] 2)))
    have hbk : Below w0.heap.size w0 (w0.alloc (.cells #[.int .i64 1, .int .i64 4, .int .i64 5] 2)) := (Below.refl _ _).alloc (Nat.le_refl _) _
    have HO1 := Lib.hid (HO.out.below hbk (by omega))
    have HB1 := Lib.hid (HB.out.trans (hbk.mono HB.out.size))
    have hs1 := hbk.size
    generalize w0.alloc (.cells #[.int .i64 1, .int .i64 4, .int .i64 5] 2) = w1 at hkb0 HO1 HB1 hs1 ⊢
    rw [hsz1] at hkb0
    have HKb := Lib.hid hkb0
    have HKl : Hid (w.heap.size + 1 < w1.heap.size) := (Array.getElem?_eq_some_iff.1 hkb0).1
    clear hkb0 hsz1 hbk c0 c1
    refine (l5Last w1 w1.heap.size av ao nv cv no co xs l item _ 3 _ [1, 4, 5] (ints_of_block (xs := [1, 4, 5]) HKb.out HKl.out rfl) (by omega) (HO1.out.more (by omega)) (Nat.le_refl _) hn HC.out).mono ?_
    rintro e w2 ⟨rfl, hb⟩
    have HB2 := Lib.hid (HB1.out.trans (hb.mono HB1.out.size))
    clear hb HKb
    rw [kin_plc]
    generalize bestTo plcB item l l.length = o at hkb ⊢
    have hfl := Try.fieldKind o
    go_wp2
    go_ret
    exact ⟨by rw [HD.out]; rfl, HB2.out⟩
  · have hkb : ((bestTo plcB item l l.length).kind == 4) = false := by rw [beq_eq_false_iff_ne]; exact hk
    have HD := Lib.hid (decide_eq_false hk)
    clear hk
    go_enter Try.func44, Try.ntmps44
    go_wp2_with fail
    have hsz1 : (w.alloc (.cells #[.slice av nv cv, .slice ao no co] 37)).heap.size = w.heap.size + 1 := by simp
    generalize w.alloc (.cells #[.slice av nv cv, .slice ao no co] 37) = w0 at HO HB HX hsz c0 c1 hsz1 ⊢
    have hkb0 := boxAt (Below.refl _ (w0.alloc (.cells #[.int .i64 1, .int .i64 4, .int .i64 5] 2)))
    have hbk : Below w0.heap.size w0 (w0.alloc (.cells #[.int .i64 1, .int .i64 4, .int .i64 5] 2)) := (Below.refl _ _).alloc (Nat.le_refl _) _
    have HO1 := Lib.hid (HO.out.below hbk (by omega))
    have HB1 := Lib.hid (HB.out.trans (hbk.mono HB.out.size))
    have hs1 := hbk.size
    generalize w0.alloc (.cells #[.int .i64 1, .int .i64 4, .int .i64 5] 2) = w1 at hkb0 HO1 HB1 hs1 ⊢
    rw [hsz1] at hkb0
    have HKb := Lib.hid hkb0
    have HKl : Hid (w.heap.size + 1 < w1.heap.size) := (Array.getElem?_eq_some_iff.1 hkb0).1
    clear hkb0 hsz1 hbk c0 c1
    refine (l5Last w1 w1.heap.size av ao nv cv no co xs l item _ 3 _ [1, 4, 5] (ints_of_block (xs := [1, 4, 5]) HKb.out HKl.out rfl) (by omega) (HO1.out.more (by omega)) (Nat.le_refl _) hn HC.out).mono ?_
    rintro e w2 ⟨rfl, hb⟩
    have HB2 := Lib.hid (HB1.out.trans (hb.mono HB1.out.size))
    clear hb HKb
    rw [kin_plc]
    generalize bestTo plcB item l l.length = o at hkb ⊢
    have hfl := Try.fieldKind o
    go_wp2
    go_ret
    exact ⟨by rw [HD.out]; rfl, HB2.out⟩
set_option maxRecDepth 100000 in
set_option maxHeartbeats 2000000 in
theorem implQtyOf (w : World) (B : Nat) (av ao : Option Addr) (nv cv no co : Nat) (xs : List Int) (l : List OpV) (item : ByteArray) (hx : Ints w B av nv xs) (h : Ops w B ao no l) (hB : B ≤ w.heap.size) (hv : nv ≤ 1048576) (hi : item.size ≤ 1048576) (hc : no ≤ co) (hc2 : co ≤ 1048576) : Calls Try.prog 19 #[.agg #[.slice av nv cv, .slice ao no co], .string item] w fun e w' => e = .returned (.int .i64 (qtyN xs l item)) ∧ Below w.heap.size w w' := by
  have hb0 : Below w.heap.size w (w.alloc (.cells #[.slice av nv cv, .slice ao no co] 37)) := (Below.refl _ w).alloc (Nat.le_refl _) _
  have HV := Lib.hid (hx.below hb0 hB)
  have HO := Lib.hid (h.below hb0 hB)
  have HB := Lib.hid hb0
  have HX := Lib.hid (boxAt (Below.refl _ (w.alloc (.cells #[.slice av nv cv, .slice ao no co] 37))))
  have hsz : w.heap.size < (w.alloc (.cells #[.slice av nv cv, .slice ao no co] 37)).heap.size := by show _ < (w.heap.push _).size; simp
  clear hx h hb0
  obtain ⟨c0, c1⟩ := pair_cells HX.out
  have HL := Lib.hid (stateV_level item (counted xs l))
  have HN : Hid (qtyN xs l item = lineQ (stateV item (counted xs l))) := rfl
  go_enter Try.func19, Try.ntmps19
  go_wp2_with fail
  generalize w.alloc (.cells #[.slice av nv cv, .slice ao no co] 37) = w0 at HV HO HB HX hsz c0 c1 ⊢
  refine (stateOfW w0 B av ao nv cv no co xs l item HV.out HO.out (by omega) hv hc hc2).mono ?_
  rintro e w1 ⟨rfl, hb⟩
  have HX1 := Lib.hid ((hb.block _ (Array.getElem?_eq_some_iff.1 HX.out).1).trans HX.out)
  have HV1 := Lib.hid (HV.out.below hb (by omega))
  have HO1 := Lib.hid (HO.out.below hb (by omega))
  have HB1 := Lib.hid (HB.out.trans (hb.mono HB.out.size))
  have hs1 := hb.size
  clear hb c0 c1 HX HV HO HB
  obtain ⟨c0, c1⟩ := pair_cells HX1.out
  generalize stateV item (counted xs l) = s at HL HN ⊢
  go_wp2_with fail
  refine (lineW s item HL.out hi w1).mono ?_
  rintro e w2 ⟨rfl, hb⟩
  have HX2 := Lib.hid ((hb.block _ (Array.getElem?_eq_some_iff.1 HX1.out).1).trans HX1.out)
  have HV2 := Lib.hid (HV1.out.below hb (by omega))
  have HO2 := Lib.hid (HO1.out.below hb (by omega))
  have HB2 := Lib.hid (HB1.out.trans (hb.mono HB1.out.size))
  have hs2 := hb.size
  clear hb c0 c1 HX1 HV1 HO1 HB1
  obtain ⟨c0, c1⟩ := pair_cells HX2.out
  have hfl := Try.lineQty (lineI s item) (lineQ s) (lineS s)
  go_wp2
  go_ret
  exact ⟨by rw [HN.out]; rfl, HB2.out⟩
set_option maxRecDepth 100000 in
set_option maxHeartbeats 2000000 in
theorem specQtyOf (w : World) (B : Nat) (av ao : Option Addr) (nv cv no co : Nat) (xs : List Int) (l : List OpV) (item : ByteArray) (hx : Ints w B av nv xs) (h : Ops w B ao no l) (hB : B ≤ w.heap.size) (hv : nv ≤ 1048576) (hn : no ≤ 1048576) (hm : ∀ i, i < no → (atOp l i).item.size ≤ 1048576) : Calls Try.prog 18 #[.agg #[.slice av nv cv, .slice ao no co], .string item] w fun e w' => e = .returned (.int .i64 (qtyN xs l item)) ∧ Below w.heap.size w w' := by
  have hb0 : Below w.heap.size w (w.alloc (.cells #[.slice av nv cv, .slice ao no co] 37)) := (Below.refl _ w).alloc (Nat.le_refl _) _
  have HV := Lib.hid (hx.below hb0 hB)
  have HO := Lib.hid (h.below hb0 hB)
  have HB := Lib.hid hb0
  have HX := Lib.hid (boxAt (Below.refl _ (w.alloc (.cells #[.slice av nv cv, .slice ao no co] 37))))
  have hsz : w.heap.size < (w.alloc (.cells #[.slice av nv cv, .slice ao no co] 37)).heap.size := by show _ < (w.heap.push _).size; simp
  clear hx h hb0
  obtain ⟨c0, c1⟩ := pair_cells HX.out
  rcases hcb : cartB xs l with _ | _
  · have HE := Lib.hid (qtyN_no (item := item) (.inl hcb))
    have HC := Lib.hid hcb
    clear hcb
    go_enter Try.func18, Try.ntmps18
    go_wp2_with fail
    generalize w.alloc (.cells #[.slice av nv cv, .slice ao no co] 37) = w0 at HV HO HB HX hsz c0 c1 ⊢
    refine (specCartOk w0 B av ao nv cv no co xs l HV.out HO.out (by omega) hv hn hm).mono ?_
    rintro e w1 ⟨rfl, hb⟩
    rw [HC.out]
    have HX1 := Lib.hid ((hb.block _ (Array.getElem?_eq_some_iff.1 HX.out).1).trans HX.out)
    have HV1 := Lib.hid (HV.out.below hb (by omega))
    have HO1 := Lib.hid (HO.out.below hb (by omega))
    have HB1 := Lib.hid (HB.out.trans (hb.mono HB.out.size))
    have hs1 := hb.size
    clear hb c0 c1 HX HV HO HB
    obtain ⟨c0, c1⟩ := pair_cells HX1.out
    go_wp2
    go_ret
    exact ⟨by rw [HE.out]; rfl, HB1.out⟩
  have HC := Lib.hid hcb
  by_cases hm1 : levTo item l l.length % 2 = 1
  rotate_left
  · have HE := Lib.hid (qtyN_no (item := item) (.inr ⟨hcb, hm1⟩))
    have HD := Lib.hid (decide_eq_false hm1)
    clear hcb hm1
    go_enter Try.func18, Try.ntmps18
    go_wp2_with fail
    generalize w.alloc (.cells #[.slice av nv cv, .slice ao no co] 37) = w0 at HV HO HB HX hsz c0 c1 ⊢
    refine (specCartOk w0 B av ao nv cv no co xs l HV.out HO.out (by omega) hv hn hm).mono ?_
    rintro e w1 ⟨rfl, hb⟩
    rw [HC.out]
    have HX1 := Lib.hid ((hb.block _ (Array.getElem?_eq_some_iff.1 HX.out).1).trans HX.out)
    have HV1 := Lib.hid (HV.out.below hb (by omega))
    have HO1 := Lib.hid (HO.out.below hb (by omega))
    have HB1 := Lib.hid (HB.out.trans (hb.mono HB.out.size))
    have hs1 := hb.size
    clear hb c0 c1 HX HV HO HB
    obtain ⟨c0, c1⟩ := pair_cells HX1.out
    go_wp2_with fail
    refine (l5There w1 B av ao nv cv no co xs l item HO1.out (by omega) hn HC.out).mono ?_
    rintro e w2 ⟨rfl, hb⟩
    rw [HD.out]
    have HX2 := Lib.hid ((hb.block _ (Array.getElem?_eq_some_iff.1 HX1.out).1).trans HX1.out)
    have HV2 := Lib.hid (HV1.out.below hb (by omega))
    have HO2 := Lib.hid (HO1.out.below hb (by omega))
    have HB2 := Lib.hid (HB1.out.trans (hb.mono HB1.out.size))
    have hs2 := hb.size
    clear hb c0 c1 HX1 HV1 HO1 HB1
    obtain ⟨c0, c1⟩ := pair_cells HX2.out
    go_wp2
    go_ret
    exact ⟨by rw [HE.out]; rfl, HB2.out⟩
  have HE := Lib.hid (qtyN_yes (item := item) hcb hm1)
  have HD := Lib.hid (decide_eq_true hm1)
  clear hcb hm1
  go_enter Try.func18, Try.ntmps18
  go_wp2_with fail
  generalize w.alloc (.cells #[.slice av nv cv, .slice ao no co] 37) = w0 at HV HO HB HX hsz c0 c1 ⊢
  refine (specCartOk w0 B av ao nv cv no co xs l HV.out HO.out (by omega) hv hn hm).mono ?_
  rintro e w1 ⟨rfl, hb⟩
  rw [HC.out]
  have HX1 := Lib.hid ((hb.block _ (Array.getElem?_eq_some_iff.1 HX.out).1).trans HX.out)
  have HV1 := Lib.hid (HV.out.below hb (by omega))
  have HO1 := Lib.hid (HO.out.below hb (by omega))
  have HB1 := Lib.hid (HB.out.trans (hb.mono HB.out.size))
  have hs1 := hb.size
  clear hb c0 c1 HX HV HO HB
  obtain ⟨c0, c1⟩ := pair_cells HX1.out
  go_wp2_with fail
  refine (l5There w1 B av ao nv cv no co xs l item HO1.out (by omega) hn HC.out).mono ?_
  rintro e w2 ⟨rfl, hb⟩
  rw [HD.out]
  have HX2 := Lib.hid ((hb.block _ (Array.getElem?_eq_some_iff.1 HX1.out).1).trans HX1.out)
  have HV2 := Lib.hid (HV1.out.below hb (by omega))
  have HO2 := Lib.hid (HO1.out.below hb (by omega))
  have HB2 := Lib.hid (HB1.out.trans (hb.mono HB1.out.size))
  have hs2 := hb.size
  clear hb c0 c1 HX1 HV1 HO1 HB1
  obtain ⟨c0, c1⟩ := pair_cells HX2.out
  go_wp2_with fail
  refine (l5Qty w2 B av ao nv cv no co xs l item HO2.out (by omega) hn HC.out).mono ?_
  rintro e w3 ⟨rfl, hb⟩
  have HX3 := Lib.hid ((hb.block _ (Array.getElem?_eq_some_iff.1 HX2.out).1).trans HX2.out)
  have HV3 := Lib.hid (HV2.out.below hb (by omega))
  have HO3 := Lib.hid (HO2.out.below hb (by omega))
  have HB3 := Lib.hid (HB2.out.trans (hb.mono HB2.out.size))
  have hs3 := hb.size
  clear hb c0 c1 HX2 HV2 HO2 HB2
  obtain ⟨c0, c1⟩ := pair_cells HX3.out
  go_wp2
  go_ret
  exact ⟨by rw [HE.out]; rfl, HB3.out⟩
set_option maxRecDepth 100000 in
set_option maxHeartbeats 2000000 in
theorem implSavedOf (w : World) (B : Nat) (av ao : Option Addr) (nv cv no co : Nat) (xs : List Int) (l : List OpV) (item : ByteArray) (hx : Ints w B av nv xs) (h : Ops w B ao no l) (hB : B ≤ w.heap.size) (hv : nv ≤ 1048576) (hi : item.size ≤ 1048576) (hc : no ≤ co) (hc2 : co ≤ 1048576) : Calls Try.prog 21 #[.agg #[.slice av nv cv, .slice ao no co], .string item] w fun e w' => e = .returned (.bool (savedN xs l item)) ∧ Below w.heap.size w w' := by
  have hb0 : Below w.heap.size w (w.alloc (.cells #[.slice av nv cv, .slice ao no co] 37)) := (Below.refl _ w).alloc (Nat.le_refl _) _
  have HV := Lib.hid (hx.below hb0 hB)
  have HO := Lib.hid (h.below hb0 hB)
  have HB := Lib.hid hb0
  have HX := Lib.hid (boxAt (Below.refl _ (w.alloc (.cells #[.slice av nv cv, .slice ao no co] 37))))
  have hsz : w.heap.size < (w.alloc (.cells #[.slice av nv cv, .slice ao no co] 37)).heap.size := by show _ < (w.heap.push _).size; simp
  clear hx h hb0
  obtain ⟨c0, c1⟩ := pair_cells HX.out
  have HL := Lib.hid (stateV_level item (counted xs l))
  have HN : Hid (savedN xs l item = lineS (stateV item (counted xs l))) := rfl
  go_enter Try.func21, Try.ntmps21
  go_wp2_with fail
  generalize w.alloc (.cells #[.slice av nv cv, .slice ao no co] 37) = w0 at HV HO HB HX hsz c0 c1 ⊢
  refine (stateOfW w0 B av ao nv cv no co xs l item HV.out HO.out (by omega) hv hc hc2).mono ?_
  rintro e w1 ⟨rfl, hb⟩
  have HX1 := Lib.hid ((hb.block _ (Array.getElem?_eq_some_iff.1 HX.out).1).trans HX.out)
  have HV1 := Lib.hid (HV.out.below hb (by omega))
  have HO1 := Lib.hid (HO.out.below hb (by omega))
  have HB1 := Lib.hid (HB.out.trans (hb.mono HB.out.size))
  have hs1 := hb.size
  clear hb c0 c1 HX HV HO HB
  obtain ⟨c0, c1⟩ := pair_cells HX1.out
  generalize stateV item (counted xs l) = s at HL HN ⊢
  go_wp2_with fail
  refine (lineW s item HL.out hi w1).mono ?_
  rintro e w2 ⟨rfl, hb⟩
  have HX2 := Lib.hid ((hb.block _ (Array.getElem?_eq_some_iff.1 HX1.out).1).trans HX1.out)
  have HV2 := Lib.hid (HV1.out.below hb (by omega))
  have HO2 := Lib.hid (HO1.out.below hb (by omega))
  have HB2 := Lib.hid (HB1.out.trans (hb.mono HB1.out.size))
  have hs2 := hb.size
  clear hb c0 c1 HX1 HV1 HO1 HB1
  obtain ⟨c0, c1⟩ := pair_cells HX2.out
  have hfl := Try.lineSaved (lineI s item) (lineQ s) (lineS s)
  go_wp2
  go_ret
  exact ⟨by rw [HN.out]; rfl, HB2.out⟩
set_option maxRecDepth 100000 in
set_option maxHeartbeats 2000000 in
theorem specSavedOf (w : World) (B : Nat) (av ao : Option Addr) (nv cv no co : Nat) (xs : List Int) (l : List OpV) (item : ByteArray) (hx : Ints w B av nv xs) (h : Ops w B ao no l) (hB : B ≤ w.heap.size) (hv : nv ≤ 1048576) (hn : no ≤ 1048576) (hm : ∀ i, i < no → (atOp l i).item.size ≤ 1048576) : Calls Try.prog 20 #[.agg #[.slice av nv cv, .slice ao no co], .string item] w fun e w' => e = .returned (.bool (savedN xs l item)) ∧ Below w.heap.size w w' := by
  have hb0 : Below w.heap.size w (w.alloc (.cells #[.slice av nv cv, .slice ao no co] 37)) := (Below.refl _ w).alloc (Nat.le_refl _) _
  have HV := Lib.hid (hx.below hb0 hB)
  have HO := Lib.hid (h.below hb0 hB)
  have HB := Lib.hid hb0
  have HX := Lib.hid (boxAt (Below.refl _ (w.alloc (.cells #[.slice av nv cv, .slice ao no co] 37))))
  have hsz : w.heap.size < (w.alloc (.cells #[.slice av nv cv, .slice ao no co] 37)).heap.size := by show _ < (w.heap.push _).size; simp
  clear hx h hb0
  obtain ⟨c0, c1⟩ := pair_cells HX.out
  rcases hcb : cartB xs l with _ | _
  · have HE := Lib.hid (savedN_no (item := item) (.inl hcb))
    have HC := Lib.hid hcb
    clear hcb
    go_enter Try.func20, Try.ntmps20
    go_wp2_with fail
    generalize w.alloc (.cells #[.slice av nv cv, .slice ao no co] 37) = w0 at HV HO HB HX hsz c0 c1 ⊢
    refine (specCartOk w0 B av ao nv cv no co xs l HV.out HO.out (by omega) hv hn hm).mono ?_
    rintro e w1 ⟨rfl, hb⟩
    rw [HC.out]
    have HX1 := Lib.hid ((hb.block _ (Array.getElem?_eq_some_iff.1 HX.out).1).trans HX.out)
    have HV1 := Lib.hid (HV.out.below hb (by omega))
    have HO1 := Lib.hid (HO.out.below hb (by omega))
    have HB1 := Lib.hid (HB.out.trans (hb.mono HB.out.size))
    have hs1 := hb.size
    clear hb c0 c1 HX HV HO HB
    obtain ⟨c0, c1⟩ := pair_cells HX1.out
    go_wp2
    go_ret
    exact ⟨by rw [HE.out]; rfl, HB1.out⟩
  have HC := Lib.hid hcb
  by_cases hm1 : levTo item l l.length % 2 = 1
  rotate_left
  · have HE := Lib.hid (savedN_no (item := item) (.inr ⟨hcb, hm1⟩))
    have HD := Lib.hid (decide_eq_false hm1)
    clear hcb hm1
    go_enter Try.func20, Try.ntmps20
    go_wp2_with fail
    generalize w.alloc (.cells #[.slice av nv cv, .slice ao no co] 37) = w0 at HV HO HB HX hsz c0 c1 ⊢
    refine (specCartOk w0 B av ao nv cv no co xs l HV.out HO.out (by omega) hv hn hm).mono ?_
    rintro e w1 ⟨rfl, hb⟩
    rw [HC.out]
    have HX1 := Lib.hid ((hb.block _ (Array.getElem?_eq_some_iff.1 HX.out).1).trans HX.out)
    have HV1 := Lib.hid (HV.out.below hb (by omega))
    have HO1 := Lib.hid (HO.out.below hb (by omega))
    have HB1 := Lib.hid (HB.out.trans (hb.mono HB.out.size))
    have hs1 := hb.size
    clear hb c0 c1 HX HV HO HB
    obtain ⟨c0, c1⟩ := pair_cells HX1.out
    go_wp2_with fail
    refine (l5There w1 B av ao nv cv no co xs l item HO1.out (by omega) hn HC.out).mono ?_
    rintro e w2 ⟨rfl, hb⟩
    rw [HD.out]
    have HX2 := Lib.hid ((hb.block _ (Array.getElem?_eq_some_iff.1 HX1.out).1).trans HX1.out)
    have HV2 := Lib.hid (HV1.out.below hb (by omega))
    have HO2 := Lib.hid (HO1.out.below hb (by omega))
    have HB2 := Lib.hid (HB1.out.trans (hb.mono HB1.out.size))
    have hs2 := hb.size
    clear hb c0 c1 HX1 HV1 HO1 HB1
    obtain ⟨c0, c1⟩ := pair_cells HX2.out
    go_wp2
    go_ret
    exact ⟨by rw [HE.out]; rfl, HB2.out⟩
  have HE := Lib.hid (savedN_yes (item := item) hcb hm1)
  have HD := Lib.hid (decide_eq_true hm1)
  clear hcb hm1
  go_enter Try.func20, Try.ntmps20
  go_wp2_with fail
  generalize w.alloc (.cells #[.slice av nv cv, .slice ao no co] 37) = w0 at HV HO HB HX hsz c0 c1 ⊢
  refine (specCartOk w0 B av ao nv cv no co xs l HV.out HO.out (by omega) hv hn hm).mono ?_
  rintro e w1 ⟨rfl, hb⟩
  rw [HC.out]
  have HX1 := Lib.hid ((hb.block _ (Array.getElem?_eq_some_iff.1 HX.out).1).trans HX.out)
  have HV1 := Lib.hid (HV.out.below hb (by omega))
  have HO1 := Lib.hid (HO.out.below hb (by omega))
  have HB1 := Lib.hid (HB.out.trans (hb.mono HB.out.size))
  have hs1 := hb.size
  clear hb c0 c1 HX HV HO HB
  obtain ⟨c0, c1⟩ := pair_cells HX1.out
  go_wp2_with fail
  refine (l5There w1 B av ao nv cv no co xs l item HO1.out (by omega) hn HC.out).mono ?_
  rintro e w2 ⟨rfl, hb⟩
  rw [HD.out]
  have HX2 := Lib.hid ((hb.block _ (Array.getElem?_eq_some_iff.1 HX1.out).1).trans HX1.out)
  have HV2 := Lib.hid (HV1.out.below hb (by omega))
  have HO2 := Lib.hid (HO1.out.below hb (by omega))
  have HB2 := Lib.hid (HB1.out.trans (hb.mono HB1.out.size))
  have hs2 := hb.size
  clear hb c0 c1 HX1 HV1 HO1 HB1
  obtain ⟨c0, c1⟩ := pair_cells HX2.out
  go_wp2_with fail
  refine (l5Saved w2 B av ao nv cv no co xs l item HO2.out (by omega) hn HC.out).mono ?_
  rintro e w3 ⟨rfl, hb⟩
  have HX3 := Lib.hid ((hb.block _ (Array.getElem?_eq_some_iff.1 HX2.out).1).trans HX2.out)
  have HV3 := Lib.hid (HV2.out.below hb (by omega))
  have HO3 := Lib.hid (HO2.out.below hb (by omega))
  have HB3 := Lib.hid (HB2.out.trans (hb.mono HB2.out.size))
  have hs3 := hb.size
  clear hb c0 c1 HX2 HV2 HO2 HB2
  obtain ⟨c0, c1⟩ := pair_cells HX3.out
  go_wp2
  go_ret
  exact ⟨by rw [HE.out]; rfl, HB3.out⟩
end Go.Proofs.Ytideaompdbdbhaa
