/- The walks of UndoTarget and RedoTarget, the model's and the program's. -/
import Derived.Test.YtmceofdknphgkaaGa26
import Derived.Test.YtmceofdknphgkaaGrpLastLiveW
import Derived.Deep.Cut
namespace Go.Proofs.Ytmceofdknphgkaa
open Go.RowKit

def undoN (xs : List Int) (l : List OpV) (dev : Int) : Int := if cartB xs l = true ∧ inB dev 0 3 = true then undoTo dev l l.length else 0
def redoN (xs : List Int) (l : List OpV) (dev : Int) : Int := if cartB xs l = true ∧ inB dev 0 3 = true then redoTo xs dev.toNat l else 0
theorem last_undo (xs : List Int) (l : List OpV) (dev : Int) : lastOf dev (counted xs l) = undoN xs l dev := by
  unfold counted undoN
  by_cases hc : cartB xs l = true
  · rw [if_pos hc, undo_last hc dev _ (Nat.le_refl _)]
    by_cases hd : inB dev 0 3 = true
    · rw [if_pos ⟨hc, hd⟩]
    · rw [if_neg (fun h => hd h.2), undo_nobody hc (fun h => hd (inB_iff.2 h)) _ (Nat.le_refl _)]
  · rw [if_neg hc, if_neg (fun h => hc h.1)]
    rfl
theorem undoN_no {xs : List Int} {l : List OpV} {dev : Int} (h : cartB xs l = false ∨ inB dev 0 3 = false) : undoN xs l dev = 0 := by
  unfold undoN
  rw [if_neg (fun k => by rcases h with h | h <;> simp [h] at k)]
theorem redoN_no {xs : List Int} {l : List OpV} {dev : Int} (h : cartB xs l = false ∨ inB dev 0 3 = false) : redoN xs l dev = 0 := by
  unfold redoN
  rw [if_neg (fun k => by rcases h with h | h <;> simp [h] at k)]
/-- A target's number; whether there is one. -/
def TgtPost (n : Int) (w : World) (e : Ending) (w' : World) : Prop := e = .returned (.tuple #[.int .i64 n, .bool (decide (0 < n))]) ∧ Below w.heap.size w w'
theorem tgt_no {n : Int} {w w' : World} (h : n = 0) (hb : Below w.heap.size w w') : TgtPost n w (.returned (.tuple #[.int .i64 0, .bool false])) w' := ⟨by rw [h]; rfl, hb⟩
theorem tgt_yes {n m : Int} {w w' : World} (h : n = m) (h0 : 0 < m) (hb : Below w.heap.size w w') : TgtPost n w (.returned (.tuple #[.int .i64 m, .bool true])) w' := ⟨by rw [h, decide_eq_true h0], hb⟩
theorem deviceOkW (dev : Int) (w : World) : Calls Try.prog 118 #[.int .i64 dev] w fun e w' => e = .returned (.bool (inB dev 0 3)) ∧ w = w' := by
  go_enter Try.func118, Try.ntmps118
  go_wp2_with fail
  refine (inRange _ _ _ _).mono ?_
  rintro e w' ⟨rfl, rfl⟩
  go_wp2
  go_ret
  exact ⟨rfl, rfl⟩

set_option maxRecDepth 100000 in
set_option maxHeartbeats 2000000 in
theorem implUndo (w : World) (B : Nat) (av ao : Option Addr) (nv cv no co : Nat) (xs : List Int) (l : List OpV) (dev : Int) (hx : Ints w B av nv xs) (h : Ops w B ao no l) (hB : B ≤ w.heap.size) (hv : nv ≤ 1048576) (hc : no ≤ co) (hc2 : Fits no co) : Calls Try.prog 41 #[.agg #[.slice av nv cv, .slice ao no co], .int .i64 dev] w (TgtPost (undoN xs l dev) w) := by
  have hn1048 : no ≤ 1048576 := hc2.1
  have hb0 : Below w.heap.size w (w.alloc (.cells #[.slice av nv cv, .slice ao no co] 27)) := (Below.refl _ w).alloc (Nat.le_refl _) _
  have HV := Lib.hid (hx.below hb0 hB)
  have HO := Lib.hid (h.below hb0 hB)
  have HB := Lib.hid hb0
  have HX := Lib.hid (boxAt (Below.refl _ (w.alloc (.cells #[.slice av nv cv, .slice ao no co] 27))))
  have hsz : w.heap.size < (w.alloc (.cells #[.slice av nv cv, .slice ao no co] 27)).heap.size := by show _ < (w.heap.push _).size; simp
  clear hx h hb0
  obtain ⟨c0, c1⟩ := pair_cells HX.out
  go_enter Try.func41, Try.ntmps41
  go_wp2_with fail
  generalize w.alloc (.cells #[.slice av nv cv, .slice ao no co] 27) = w0 at HV HO HB HX hsz c0 c1 ⊢
  refine (lastLive w0 B av ao nv cv no co xs l dev HV.out HO.out (by omega) hv hc hc2).mono ?_
  rintro e w1 ⟨rfl, hb⟩
  rw [last_undo]
  have HX1 := Lib.hid ((hb.block _ (Array.getElem?_eq_some_iff.1 HX.out).1).trans HX.out)
  have HV1 := Lib.hid (HV.out.below hb (by omega))
  have HO1 := Lib.hid (HO.out.below hb (by omega))
  have HB1 := Lib.hid (HB.out.trans (hb.mono HB.out.size))
  have hs1 := hb.size
  clear hb c0 c1 HX HV HO HB
  obtain ⟨c0, c1⟩ := pair_cells HX1.out
  go_wp2
  go_ret2
  exact ⟨rfl, HB1.out⟩
set_option maxRecDepth 100000 in
set_option maxHeartbeats 2000000 in
theorem implRedo (w : World) (B : Nat) (av ao : Option Addr) (nv cv no co : Nat) (xs : List Int) (l : List OpV) (dev : Int) (hx : Ints w B av nv xs) (h : Ops w B ao no l) (hB : B ≤ w.heap.size) (hv : nv ≤ 1048576) (hc : no ≤ co) (hc2 : Fits no co) : Calls Try.prog 44 #[.agg #[.slice av nv cv, .slice ao no co], .int .i64 dev] w (TgtPost (redoN xs l dev) w) := by
  have hn1048 : no ≤ 1048576 := hc2.1
  have hb0 : Below w.heap.size w (w.alloc (.cells #[.slice av nv cv, .slice ao no co] 27)) := (Below.refl _ w).alloc (Nat.le_refl _) _
  have HV := Lib.hid (hx.below hb0 hB)
  have HO := Lib.hid (h.below hb0 hB)
  have HB := Lib.hid hb0
  have HX := Lib.hid (boxAt (Below.refl _ (w.alloc (.cells #[.slice av nv cv, .slice ao no co] 27))))
  have hsz : w.heap.size < (w.alloc (.cells #[.slice av nv cv, .slice ao no co] 27)).heap.size := by show _ < (w.heap.push _).size; simp
  clear hx h hb0
  obtain ⟨c0, c1⟩ := pair_cells HX.out
  rcases hcb : cartB xs l with _ | _
  · have HN := Lib.hid (redoN_no (dev := dev) (.inl hcb))
    have HC := Lib.hid hcb
    clear hcb
    go_enter Try.func44, Try.ntmps44
    go_wp2_with fail
    generalize w.alloc (.cells #[.slice av nv cv, .slice ao no co] 27) = w0 at HV HO HB HX hsz c0 c1 ⊢
    refine (implCartOk w0 B av ao nv cv no co xs l HV.out HO.out (by omega) hv hc hc2).mono ?_
    rintro e w1 ⟨rfl, hb⟩
    rw [HC.out]
    have HX1 := Lib.hid ((hb.block _ (Array.getElem?_eq_some_iff.1 HX.out).1).trans HX.out)
    have HV1 := Lib.hid (HV.out.below hb (by omega))
    have HO1 := Lib.hid (HO.out.below hb (by omega))
    have HB1 := Lib.hid (HB.out.trans (hb.mono HB.out.size))
    have hs1 := hb.size
    clear hb c0 c1 HX HV HO HB
    obtain ⟨c0, c1⟩ := pair_cells HX1.out
    go_wp2
    go_ret2
    exact tgt_no HN.out HB1.out
  have HC := Lib.hid hcb
  rcases hd : inB dev 0 3 with _ | _
  · have HN := Lib.hid (redoN_no (xs := xs) (l := l) (.inr hd))
    have HD := Lib.hid hd
    clear hcb hd
    go_enter Try.func44, Try.ntmps44
    go_wp2_with fail
    generalize w.alloc (.cells #[.slice av nv cv, .slice ao no co] 27) = w0 at HV HO HB HX hsz c0 c1 ⊢
    refine (implCartOk w0 B av ao nv cv no co xs l HV.out HO.out (by omega) hv hc hc2).mono ?_
    rintro e w1 ⟨rfl, hb⟩
    rw [HC.out]
    have HX1 := Lib.hid ((hb.block _ (Array.getElem?_eq_some_iff.1 HX.out).1).trans HX.out)
    have HV1 := Lib.hid (HV.out.below hb (by omega))
    have HO1 := Lib.hid (HO.out.below hb (by omega))
    have HB1 := Lib.hid (HB.out.trans (hb.mono HB.out.size))
    have hs1 := hb.size
    clear hb c0 c1 HX HV HO HB
    obtain ⟨c0, c1⟩ := pair_cells HX1.out
    go_wp2_with fail
    refine (deviceOkW _ _).mono ?_
    rintro e w' ⟨rfl, rfl⟩
    rw [HD.out]
    go_wp2
    go_ret2
    exact tgt_no HN.out HB1.out
  have HD := Lib.hid hd
  obtain ⟨g1, g2⟩ := inB_iff.1 hd
  obtain ⟨d, rfl⟩ := Int.eq_ofNat_of_zero_le g1
  have hd4 : d < 4 := by omega
  have HU : Hid (undoN xs l (d : Int) = undoTo (d : Int) l l.length) := by show _ = _; unfold undoN; rw [if_pos ⟨hcb, hd⟩]
  have HR : Hid (redoN xs l (d : Int) = if undoTo (d : Int) l l.length + 1 ≤ xs.getD d 0 then undoTo (d : Int) l l.length + 1 else 0) := by show _ = _; unfold redoN; rw [if_pos ⟨hcb, hd⟩, Int.toNat_natCast]; rfl
  have HLe := Lib.hid (undo_le hcb d l.length (Nat.le_refl _))
  have hu1 := HLe.out.1
  have hu2 := HLe.out.2
  have HVe := Lib.hid (vec_at (cart_split hcb).1 hd4)
  have hnv : nv = 4 := HV.out.1.symm.trans HVe.out.2.2
  subst hnv
  clear hcb hd g1 g2
  go_enter Try.func44, Try.ntmps44
  go_wp2_with fail
  generalize w.alloc (.cells #[.slice av 4 cv, .slice ao no co] 27) = w0 at HV HO HB HX hsz c0 c1 ⊢
  refine (implCartOk w0 B av ao 4 cv no co xs l HV.out HO.out (by omega) hv hc hc2).mono ?_
  rintro e w1 ⟨rfl, hb⟩
  rw [HC.out]
  have HX1 := Lib.hid ((hb.block _ (Array.getElem?_eq_some_iff.1 HX.out).1).trans HX.out)
  have HV1 := Lib.hid (HV.out.below hb (by omega))
  have HO1 := Lib.hid (HO.out.below hb (by omega))
  have HB1 := Lib.hid (HB.out.trans (hb.mono HB.out.size))
  have hs1 := hb.size
  clear hb c0 c1 HX HV HO HB
  obtain ⟨c0, c1⟩ := pair_cells HX1.out
  go_wp2_with fail
  refine (deviceOkW _ _).mono ?_
  rintro e w' ⟨rfl, rfl⟩
  rw [HD.out]
  go_wp2_with fail
  refine (lastLive w1 B av ao 4 cv no co xs l (d : Int) HV1.out HO1.out (by omega) hv hc hc2).mono ?_
  rintro e w2 ⟨rfl, hb⟩
  rw [last_undo, HU.out]
  have HX2 := Lib.hid ((hb.block _ (Array.getElem?_eq_some_iff.1 HX1.out).1).trans HX1.out)
  have HV2 := Lib.hid (HV1.out.below hb (by omega))
  have HO2 := Lib.hid (HO1.out.below hb (by omega))
  have HB2 := Lib.hid (HB1.out.trans (hb.mono HB1.out.size))
  have hs2 := hb.size
  clear hb c0 c1 HX1 HV1 HO1 HB1
  obtain ⟨c0, c1⟩ := pair_cells HX2.out
  generalize undoTo (d : Int) l l.length = u at HR hu1 hu2 ⊢
  obtain ⟨bv, ov, rfl, hbv, cv'⟩ := HV2.out.2 d hd4
  have hle := HVe.out.2.1
  generalize xs.getD d 0 = y at HR cv' hle
  by_cases hy : u + 1 ≤ y
  · have HE : Hid (redoN xs l (d : Int) = u + 1) := by show _ = _; rw [HR.out, if_pos hy]
    have hlt : ¬ y < u + 1 := by omega
    clear HR
    go_wp2
    go_ret2
    exact tgt_yes HE.out (by omega) HB2.out
  · have HE : Hid (redoN xs l (d : Int) = 0) := by show _ = _; rw [HR.out, if_neg hy]
    have hlt : y < u + 1 := by omega
    clear HR hy
    go_wp2
    go_ret2
    exact tgt_no HE.out HB2.out
set_option maxRecDepth 100000 in
set_option maxHeartbeats 2000000 in
theorem specUndo (w : World) (B : Nat) (av ao : Option Addr) (nv cv no co : Nat) (xs : List Int) (l : List OpV) (dev : Int) (hx : Ints w B av nv xs) (h : Ops w B ao no l) (hB : B ≤ w.heap.size) (hv : nv ≤ 1048576) (hn : no ≤ 1048576) (hm : ∀ i, i < no → (atOp l i).item.size ≤ 1048576) : Calls Try.prog 42 #[.agg #[.slice av nv cv, .slice ao no co], .int .i64 dev] w (TgtPost (undoN xs l dev) w) := by
  have hb0 : Below w.heap.size w (w.alloc (.cells #[.slice av nv cv, .slice ao no co] 27)) := (Below.refl _ w).alloc (Nat.le_refl _) _
  have HV := Lib.hid (hx.below hb0 hB)
  have HO := Lib.hid (h.below hb0 hB)
  have HB := Lib.hid hb0
  have HX := Lib.hid (boxAt (Below.refl _ (w.alloc (.cells #[.slice av nv cv, .slice ao no co] 27))))
  have hsz : w.heap.size < (w.alloc (.cells #[.slice av nv cv, .slice ao no co] 27)).heap.size := by show _ < (w.heap.push _).size; simp
  clear hx h hb0
  obtain ⟨c0, c1⟩ := pair_cells HX.out
  rcases hcb : cartB xs l with _ | _
  · have HN := Lib.hid (undoN_no (dev := dev) (.inl hcb))
    have HC := Lib.hid hcb
    clear hcb
    go_enter Try.func42, Try.ntmps42
    go_wp2_with fail
    generalize w.alloc (.cells #[.slice av nv cv, .slice ao no co] 27) = w0 at HV HO HB HX hsz c0 c1 ⊢
    refine (specCartOk w0 B av ao nv cv no co xs l HV.out HO.out (by omega) hv hn hm).mono ?_
    rintro e w1 ⟨rfl, hb⟩
    rw [HC.out]
    have HX1 := Lib.hid ((hb.block _ (Array.getElem?_eq_some_iff.1 HX.out).1).trans HX.out)
    have HV1 := Lib.hid (HV.out.below hb (by omega))
    have HO1 := Lib.hid (HO.out.below hb (by omega))
    have HB1 := Lib.hid (HB.out.trans (hb.mono HB.out.size))
    have hs1 := hb.size
    clear hb c0 c1 HX HV HO HB
    obtain ⟨c0, c1⟩ := pair_cells HX1.out
    go_wp2
    go_ret2
    exact tgt_no HN.out HB1.out
  have HC := Lib.hid hcb
  rcases hd : inB dev 0 3 with _ | _
  · have HN := Lib.hid (undoN_no (xs := xs) (l := l) (.inr hd))
    have HD := Lib.hid hd
    clear hcb hd
    go_enter Try.func42, Try.ntmps42
    go_wp2_with fail
    generalize w.alloc (.cells #[.slice av nv cv, .slice ao no co] 27) = w0 at HV HO HB HX hsz c0 c1 ⊢
    refine (specCartOk w0 B av ao nv cv no co xs l HV.out HO.out (by omega) hv hn hm).mono ?_
    rintro e w1 ⟨rfl, hb⟩
    rw [HC.out]
    have HX1 := Lib.hid ((hb.block _ (Array.getElem?_eq_some_iff.1 HX.out).1).trans HX.out)
    have HV1 := Lib.hid (HV.out.below hb (by omega))
    have HO1 := Lib.hid (HO.out.below hb (by omega))
    have HB1 := Lib.hid (HB.out.trans (hb.mono HB.out.size))
    have hs1 := hb.size
    clear hb c0 c1 HX HV HO HB
    obtain ⟨c0, c1⟩ := pair_cells HX1.out
    go_wp2_with fail
    refine (l3Dev _ _).mono ?_
    rintro e w' ⟨rfl, rfl⟩
    rw [HD.out]
    go_wp2
    go_ret2
    exact tgt_no HN.out HB1.out
  have HD := Lib.hid hd
  obtain ⟨g1, g2⟩ := inB_iff.1 hd
  obtain ⟨d, rfl⟩ := Int.eq_ofNat_of_zero_le g1
  have hd4 : d < 4 := by omega
  have HLe := Lib.hid (undo_le hcb d l.length (Nat.le_refl _))
  have HU : Hid (undoN xs l (d : Int) = undoTo (d : Int) l l.length) := by show _ = _; unfold undoN; rw [if_pos ⟨hcb, hd⟩]
  have hu1 := HLe.out.1
  clear hcb hd g1 g2
  go_enter Try.func42, Try.ntmps42
  go_wp2_with fail
  generalize w.alloc (.cells #[.slice av nv cv, .slice ao no co] 27) = w0 at HV HO HB HX hsz c0 c1 ⊢
  refine (specCartOk w0 B av ao nv cv no co xs l HV.out HO.out (by omega) hv hn hm).mono ?_
  rintro e w1 ⟨rfl, hb⟩
  rw [HC.out]
  have HX1 := Lib.hid ((hb.block _ (Array.getElem?_eq_some_iff.1 HX.out).1).trans HX.out)
  have HV1 := Lib.hid (HV.out.below hb (by omega))
  have HO1 := Lib.hid (HO.out.below hb (by omega))
  have HB1 := Lib.hid (HB.out.trans (hb.mono HB.out.size))
  have hs1 := hb.size
  clear hb c0 c1 HX HV HO HB
  obtain ⟨c0, c1⟩ := pair_cells HX1.out
  go_wp2_with fail
  refine (l3Dev _ _).mono ?_
  rintro e w' ⟨rfl, rfl⟩
  rw [HD.out]
  go_wp2_with fail
  refine (l6Undo w1 B av ao nv cv no co xs l (d : Int) HO1.out (by omega) hn HC.out).mono ?_
  rintro e w2 ⟨rfl, hb⟩
  have HX2 := Lib.hid ((hb.block _ (Array.getElem?_eq_some_iff.1 HX1.out).1).trans HX1.out)
  have HV2 := Lib.hid (HV1.out.below hb (by omega))
  have HO2 := Lib.hid (HO1.out.below hb (by omega))
  have HB2 := Lib.hid (HB1.out.trans (hb.mono HB1.out.size))
  have hs2 := hb.size
  clear hb c0 c1 HX1 HV1 HO1 HB1
  obtain ⟨c0, c1⟩ := pair_cells HX2.out
  have HCon := Lib.hid (fun w3 HO3 (h3 : B ≤ w3.heap.size) => l6Undo w3 B av ao nv cv no co xs l (d : Int) HO3 h3 hn HC.out)
  generalize undoTo (d : Int) l l.length = u at HU hu1 HCon ⊢
  by_cases hu : u = 0
  · have hub : (u == 0) = true := by rw [hu]; rfl
    have HE : Hid (undoN xs l (d : Int) = 0) := HU.out.trans hu
    clear hu HU
    go_wp2
    go_ret2
    exact tgt_no HE.out HB2.out
  · have hub : (u == 0) = false := by rw [beq_eq_false_iff_ne]; exact hu
    have HP : Hid (0 < u) := by show 0 < u; omega
    clear hu
    go_wp2_with fail
    refine (HCon.out w2 HO2.out (by omega)).mono ?_
    rintro e w3 ⟨rfl, hb⟩
    have HX3 := Lib.hid ((hb.block _ (Array.getElem?_eq_some_iff.1 HX2.out).1).trans HX2.out)
    have HV3 := Lib.hid (HV2.out.below hb (by omega))
    have HO3 := Lib.hid (HO2.out.below hb (by omega))
    have HB3 := Lib.hid (HB2.out.trans (hb.mono HB2.out.size))
    have hs3 := hb.size
    clear hb c0 c1 HX2 HV2 HO2 HB2
    obtain ⟨c0, c1⟩ := pair_cells HX3.out
    go_wp2
    go_ret2
    exact tgt_yes HU.out HP.out HB3.out
set_option maxRecDepth 100000 in
set_option maxHeartbeats 2000000 in
theorem specRedo (w : World) (B : Nat) (av ao : Option Addr) (nv cv no co : Nat) (xs : List Int) (l : List OpV) (dev : Int) (hx : Ints w B av nv xs) (h : Ops w B ao no l) (hB : B ≤ w.heap.size) (hv : nv ≤ 1048576) (hn : no ≤ 1048576) (hm : ∀ i, i < no → (atOp l i).item.size ≤ 1048576) : Calls Try.prog 45 #[.agg #[.slice av nv cv, .slice ao no co], .int .i64 dev] w (TgtPost (redoN xs l dev) w) := by
  have hb0 : Below w.heap.size w (w.alloc (.cells #[.slice av nv cv, .slice ao no co] 27)) := (Below.refl _ w).alloc (Nat.le_refl _) _
  have HV := Lib.hid (hx.below hb0 hB)
  have HO := Lib.hid (h.below hb0 hB)
  have HB := Lib.hid hb0
  have HX := Lib.hid (boxAt (Below.refl _ (w.alloc (.cells #[.slice av nv cv, .slice ao no co] 27))))
  have hsz : w.heap.size < (w.alloc (.cells #[.slice av nv cv, .slice ao no co] 27)).heap.size := by show _ < (w.heap.push _).size; simp
  clear hx h hb0
  obtain ⟨c0, c1⟩ := pair_cells HX.out
  rcases hcb : cartB xs l with _ | _
  · have HN := Lib.hid (redoN_no (dev := dev) (.inl hcb))
    have HC := Lib.hid hcb
    clear hcb
    go_enter Try.func45, Try.ntmps45
    go_wp2_with fail
    generalize w.alloc (.cells #[.slice av nv cv, .slice ao no co] 27) = w0 at HV HO HB HX hsz c0 c1 ⊢
    refine (specCartOk w0 B av ao nv cv no co xs l HV.out HO.out (by omega) hv hn hm).mono ?_
    rintro e w1 ⟨rfl, hb⟩
    rw [HC.out]
    have HX1 := Lib.hid ((hb.block _ (Array.getElem?_eq_some_iff.1 HX.out).1).trans HX.out)
    have HV1 := Lib.hid (HV.out.below hb (by omega))
    have HO1 := Lib.hid (HO.out.below hb (by omega))
    have HB1 := Lib.hid (HB.out.trans (hb.mono HB.out.size))
    have hs1 := hb.size
    clear hb c0 c1 HX HV HO HB
    obtain ⟨c0, c1⟩ := pair_cells HX1.out
    go_wp2
    go_ret2
    exact tgt_no HN.out HB1.out
  have HC := Lib.hid hcb
  rcases hd : inB dev 0 3 with _ | _
  · have HN := Lib.hid (redoN_no (xs := xs) (l := l) (.inr hd))
    have HD := Lib.hid hd
    clear hcb hd
    go_enter Try.func45, Try.ntmps45
    go_wp2_with fail
    generalize w.alloc (.cells #[.slice av nv cv, .slice ao no co] 27) = w0 at HV HO HB HX hsz c0 c1 ⊢
    refine (specCartOk w0 B av ao nv cv no co xs l HV.out HO.out (by omega) hv hn hm).mono ?_
    rintro e w1 ⟨rfl, hb⟩
    rw [HC.out]
    have HX1 := Lib.hid ((hb.block _ (Array.getElem?_eq_some_iff.1 HX.out).1).trans HX.out)
    have HV1 := Lib.hid (HV.out.below hb (by omega))
    have HO1 := Lib.hid (HO.out.below hb (by omega))
    have HB1 := Lib.hid (HB.out.trans (hb.mono HB.out.size))
    have hs1 := hb.size
    clear hb c0 c1 HX HV HO HB
    obtain ⟨c0, c1⟩ := pair_cells HX1.out
    go_wp2_with fail
    refine (l3Dev _ _).mono ?_
    rintro e w' ⟨rfl, rfl⟩
    rw [HD.out]
    go_wp2
    go_ret2
    exact tgt_no HN.out HB1.out
  have HD := Lib.hid hd
  obtain ⟨g1, g2⟩ := inB_iff.1 hd
  obtain ⟨d, rfl⟩ := Int.eq_ofNat_of_zero_le g1
  have hd4 : d < 4 := by omega
  have HLe := Lib.hid (undo_le hcb d l.length (Nat.le_refl _))
  have HU : Hid (redoN xs l (d : Int) = redoTo xs d l) := by show _ = _; unfold redoN; rw [if_pos ⟨hcb, hd⟩, Int.toNat_natCast]
  have hu1 : 0 ≤ redoTo xs d l := by unfold redoTo; have := HLe.out.1; split <;> omega
  clear hcb hd g1 g2
  go_enter Try.func45, Try.ntmps45
  go_wp2_with fail
  generalize w.alloc (.cells #[.slice av nv cv, .slice ao no co] 27) = w0 at HV HO HB HX hsz c0 c1 ⊢
  refine (specCartOk w0 B av ao nv cv no co xs l HV.out HO.out (by omega) hv hn hm).mono ?_
  rintro e w1 ⟨rfl, hb⟩
  rw [HC.out]
  have HX1 := Lib.hid ((hb.block _ (Array.getElem?_eq_some_iff.1 HX.out).1).trans HX.out)
  have HV1 := Lib.hid (HV.out.below hb (by omega))
  have HO1 := Lib.hid (HO.out.below hb (by omega))
  have HB1 := Lib.hid (HB.out.trans (hb.mono HB.out.size))
  have hs1 := hb.size
  clear hb c0 c1 HX HV HO HB
  obtain ⟨c0, c1⟩ := pair_cells HX1.out
  go_wp2_with fail
  refine (l3Dev _ _).mono ?_
  rintro e w' ⟨rfl, rfl⟩
  rw [HD.out]
  go_wp2_with fail
  refine (l6Redo w1 B av ao nv cv no co xs l d hd4 HO1.out (by omega) hn HC.out).mono ?_
  rintro e w2 ⟨rfl, hb⟩
  have HX2 := Lib.hid ((hb.block _ (Array.getElem?_eq_some_iff.1 HX1.out).1).trans HX1.out)
  have HV2 := Lib.hid (HV1.out.below hb (by omega))
  have HO2 := Lib.hid (HO1.out.below hb (by omega))
  have HB2 := Lib.hid (HB1.out.trans (hb.mono HB1.out.size))
  have hs2 := hb.size
  clear hb c0 c1 HX1 HV1 HO1 HB1
  obtain ⟨c0, c1⟩ := pair_cells HX2.out
  have HCon := Lib.hid (fun w3 HO3 (h3 : B ≤ w3.heap.size) => l6Redo w3 B av ao nv cv no co xs l d hd4 HO3 h3 hn HC.out)
  generalize redoTo xs d l = u at HU hu1 HCon ⊢
  by_cases hu : u = 0
  · have hub : (u == 0) = true := by rw [hu]; rfl
    have HE : Hid (redoN xs l (d : Int) = 0) := HU.out.trans hu
    clear hu HU
    go_wp2
    go_ret2
    exact tgt_no HE.out HB2.out
  · have hub : (u == 0) = false := by rw [beq_eq_false_iff_ne]; exact hu
    have HP : Hid (0 < u) := by show 0 < u; omega
    clear hu
    go_wp2_with fail
    refine (HCon.out w2 HO2.out (by omega)).mono ?_
    rintro e w3 ⟨rfl, hb⟩
    have HX3 := Lib.hid ((hb.block _ (Array.getElem?_eq_some_iff.1 HX2.out).1).trans HX2.out)
    have HV3 := Lib.hid (HV2.out.below hb (by omega))
    have HO3 := Lib.hid (HO2.out.below hb (by omega))
    have HB3 := Lib.hid (HB2.out.trans (hb.mono HB2.out.size))
    have hs3 := hb.size
    clear hb c0 c1 HX2 HV2 HO2 HB2
    obtain ⟨c0, c1⟩ := pair_cells HX3.out
    go_wp2
    go_ret2
    exact tgt_yes HU.out HP.out HB3.out
end Go.Proofs.Ytmceofdknphgkaa
