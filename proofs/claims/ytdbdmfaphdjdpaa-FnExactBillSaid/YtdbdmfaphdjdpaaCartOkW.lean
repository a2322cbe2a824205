/- The walk of impl.CartOk. -/
import Derived.Test.YtdbdmfaphdjdpaaCapB
import Derived.Test.YtdbdmfaphdjdpaaDeviceW
import Derived.Deep.Cut
namespace Go.Proofs.Ytdbdmfaphdjdpaa
open Go.RowKit

/-- How many operations the devices before d have. -/
def stOf (xs : List Int) : Nat → Nat
  | 0 => 0
  | d + 1 => stOf xs d + (xs.getD d 0).toNat
def devB (xs : List Int) (l : List OpV) (d : Nat) : Bool := decide (stOf xs (d + 1) ≤ l.length) && runB l d (stOf xs d) (xs.getD d 0).toNat
def cartB (xs : List Int) (l : List OpV) : Bool := vecOk xs && ((List.range 4).all (devB xs l) && decide (stOf xs 4 = l.length))
theorem cart_vec {xs : List Int} {l : List OpV} (h : vecOk xs = false) : cartB xs l = false := by unfold cartB; rw [h]; rfl
theorem cart_dev {xs : List Int} {l : List OpV} {d : Nat} (hd : d < 4) (h : devB xs l d = false) : cartB xs l = false := by
  have e : (List.range 4).all (devB xs l) = false := by
    rw [List.all_eq_false]
    exact ⟨d, by simpa using hd, by simp [h]⟩
  unfold cartB
  rw [e]
  simp
theorem cart_end {xs : List Int} {l : List OpV} (h : vecOk xs = true) (hd : ∀ d, d < 4 → devB xs l d = true) : cartB xs l = decide (stOf xs 4 = l.length) := by
  have e : (List.range 4).all (devB xs l) = true := by
    rw [List.all_eq_true]
    intro d hm
    exact hd d (by simpa using hm)
  unfold cartB
  rw [h, e]
  rfl
theorem vec_at {xs : List Int} (h : vecOk xs = true) {d : Nat} (hd : d < 4) : 0 ≤ xs.getD d 0 ∧ xs.getD d 0 ≤ 40 ∧ xs.length = 4 := by
  unfold vecOk at h
  simp only [Bool.and_eq_true, decide_eq_true_eq, List.all_eq_true] at h
  obtain ⟨h1, h2⟩ := h
  have hm : xs.getD d 0 ∈ xs := by
    rw [List.getD_eq_getElem?_getD, List.getElem?_eq_getElem (by omega)]
    exact List.getElem_mem _
  have := inV_true (h1 _ hm)
  exact ⟨this.1, this.2, h2⟩
theorem at_cut {l : List OpV} {st c i : Nat} (hi : i < c) : atOp ((l.drop st).take c) i = atOp l (st + i) := by
  unfold atOp
  rw [List.getD_eq_getElem?_getD, List.getElem?_take_of_lt hi, List.getElem?_drop, List.getD_eq_getElem?_getD]
theorem run_cut {l : List OpV} {dev st c : Nat} : runB ((l.drop st).take c) dev 0 c = runB l dev st c := by
  unfold runB
  rw [Bool.eq_iff_iff, List.all_eq_true, List.all_eq_true]
  have key : ∀ i, i < c → fitB ((l.drop st).take c) dev 0 i = fitB l dev st i := fun i hi => by
    have e1 : atOp ((l.drop st).take c) (0 + i) = atOp l (st + i) := by rw [Nat.zero_add]; exact at_cut hi
    have e2 : prevStamp ((l.drop st).take c) 0 i = prevStamp l st i := by
      unfold prevStamp
      split
      · rfl
      · have e : 0 + i - 1 = i - 1 := by omega
        have e' : st + i - 1 = st + (i - 1) := by omega
        rw [e, e', at_cut (by omega)]
    unfold fitB
    rw [e1, e2]
  constructor
  · intro h i hi
    rw [← key i (by simpa using hi)]
    exact h i hi
  · intro h i hi
    rw [key i (by simpa using hi)]
    exact h i hi
theorem Ops.take {w : World} {B : Nat} {a : Option Addr} {n : Nat} {l : List OpV} (h : Ops w B a n l) {c : Nat} (hc : c ≤ n) : Ops w B a c (l.take c) :=
  ⟨by rw [List.length_take, h.1]; omega, fun i hi => by
    obtain ⟨b, off, e, hb, ho⟩ := h.2 i (by omega)
    have e2 : (l.take c).getD i OpV.zero = l.getD i OpV.zero := by rw [List.getD_eq_getElem?_getD, List.getElem?_take_of_lt hi, List.getD_eq_getElem?_getD]
    exact ⟨b, off, e, hb, by rw [e2]; exact ho⟩⟩
theorem Ops.dropMap {w : World} {B : Nat} {a : Option Addr} {n : Nat} {l : List OpV} (h : Ops w B a n l) {c : Nat} (hc : c ≤ n) : Ops w B (Option.map (fun x => x.add (c * 8)) a) (n - c) (l.drop c) :=
  ⟨by rw [List.length_drop, h.1], fun i hi => by
    obtain ⟨b, off, e, hb, ho⟩ := h.2 (c + i) (by omega)
    subst e
    have e3 : (l.drop c).getD i OpV.zero = l.getD (c + i) OpV.zero := by rw [List.getD_eq_getElem?_getD, List.getElem?_drop, List.getD_eq_getElem?_getD]
    exact ⟨b, off + c * 8, by rw [Option.map_some, add_at], hb, by rw [e3, show off + c * 8 + i * 8 = off + (c + i) * 8 by omega]; exact ho⟩⟩
theorem ops_empty {w : World} {B : Nat} {a : Option Addr} {l : List OpV} (h : l.length = 0) : Ops w B a 0 l := ⟨h, fun i hi => by omega⟩

set_option maxRecDepth 100000 in
set_option maxHeartbeats 4000000 in
theorem implCartOk (w : World) (B : Nat) (av ao : Option Addr) (nv cv no co : Nat) (xs : List Int) (l : List OpV) (hx : Ints w B av nv xs) (h : Ops w B ao no l) (hB : B ≤ w.heap.size) (hv : nv ≤ 1048576) (hc : no ≤ co) (hc2 : Fits no co) :
    Calls Try.prog 18 #[.agg #[.slice av nv cv, .slice ao no co]] w fun e w' => e = .returned (.bool (cartB xs l)) ∧ Below w.heap.size w w' := by
  have hn1048 : no ≤ 1048576 := hc2.1
  have hb0 : Below w.heap.size w (w.alloc (.cells #[.slice av nv cv, .slice ao no co] 29)) := (Below.refl _ w).alloc (Nat.le_refl _) _
  have HV := Lib.hid (hx.below hb0 hB)
  have HO := Lib.hid (h.below hb0 hB)
  have HB := Lib.hid hb0
  have HX := Lib.hid (boxAt (Below.refl _ (w.alloc (.cells #[.slice av nv cv, .slice ao no co] 29))))
  have HL := Lib.hid h.1
  have hsz : w.heap.size < (w.alloc (.cells #[.slice av nv cv, .slice ao no co] 29)).heap.size := by show _ < (w.heap.push _).size; simp
  clear hx h hb0
  rcases hvk : vecOk xs with _ | _
  · have HF := Lib.hid (cart_vec (l := l) hvk)
    have HK := Lib.hid hvk
    clear hvk
    go_enter Try.func18, Try.ntmps18
    go_wp2_with fail
    refine (implVecOk _ B av nv cv xs HV.out hv).mono ?_
    rintro e w1 ⟨rfl, rfl⟩
    rw [HK.out]
    go_wp2
    go_ret
    exact ⟨by rw [HF.out]; rfl, HB.out⟩
  have HK := Lib.hid hvk
  have h4 : nv = 4 := HV.out.1.symm.trans (vec_at hvk (d := 0) (by omega)).2.2
  subst h4
  have HAt := Lib.hid (fun d (hd : d < 4) => vec_at hvk hd)
  have HCE := Lib.hid (cart_end (l := l) hvk)
  have HCD : Hid (∀ d, d < 4 → devB xs l d = false → cartB xs l = false) := fun d hd h => cart_dev hd h
  clear hvk
  go_enter Try.func18, Try.ntmps18
  go_wp2_with fail
  generalize w.alloc (.cells #[.slice av 4 cv, .slice ao no co] 29) = w0 at HV HO HB HX hsz ⊢
  refine (implVecOk _ B av 4 cv xs HV.out hv).mono ?_
  rintro e w1 ⟨rfl, rfl⟩
  rw [HK.out]
  obtain ⟨c0, c1⟩ := pair_cells HX.out
  go_wp2
  go_loopw [3, 15] (fun r i wr => ∃ (d rn rc : Nat) (ra : Option Addr), d ≤ 4 ∧ i = .int .i64 d ∧ r = .slice ra rn rc ∧ rn ≤ rc ∧ Hid (CapOk rc) ∧ Hid (Ops w0 B ra rn (l.drop (stOf xs d)) ∧ stOf xs d + rn = l.length ∧ ∀ d', d' < d → devB xs l d' = true) ∧ Hid (Below w0.heap.size w0 wr)) (fun _ i _ => 4 - (intOf i).toNat)
  case atStart => exact ⟨0, no, co, ao, by omega, rfl, rfl, hc, hc2.2, ⟨HO.out, (by rw [HL.out]; simp [stOf]), fun d' hd' => by omega⟩, Below.refl _ _⟩
  case round =>
    obtain ⟨d, rn, rc, ra, hd, rfl, rfl, hrc, hrc2, HR, HBr⟩ := hrel
    by_cases hlt : d < 4
    rotate_left
    · obtain rfl : d = 4 := by omega
      have HF := Lib.hid (HCE.out HR.out.2.2)
      have HS := Lib.hid HR.out.2.1
      by_cases hz : rn = 0
      · subst hz
        have HT : Hid (decide (stOf xs 4 = l.length) = true) := decide_eq_true (by have := HS.out; omega)
        go_wp2
        go_ret
        exact ⟨by rw [HF.out, HT.out]; rfl, HB.out.trans (HBr.out.mono HB.out.size)⟩
      · have hzb : ((rn : Int) == 0) = false := by rw [beq_eq_false_iff_ne]; omega
        have HT : Hid (decide (stOf xs 4 = l.length) = false) := decide_eq_false (by have := HS.out; omega)
        go_wp2
        go_ret
        exact ⟨by rw [HF.out, HT.out]; rfl, HB.out.trans (HBr.out.mono HB.out.size)⟩
    obtain ⟨bv, ov, rfl, hbv, hcv⟩ := HV.out.2 d hlt
    have hcv' := (HBr.out.cell (p := ⟨bv, ov + d, none⟩) (by show bv < w0.heap.size; omega)).trans hcv
    obtain ⟨g1, g2, g3⟩ := HAt.out d hlt
    obtain ⟨c, hcx⟩ := Int.eq_ofNat_of_zero_le g1
    have HSt : Hid (stOf xs (d + 1) = stOf xs d + c) := by show stOf xs (d + 1) = _; rw [stOf, hcx]; rfl
    have HDv : Hid (devB xs l d = (decide (stOf xs (d + 1) ≤ l.length) && runB l d (stOf xs d) c)) := by show devB xs l d = _; unfold devB; rw [hcx]; rfl
    rw [hcx] at hcv' g2
    clear hcv hcx g1 g3
    by_cases hcr : c ≤ rn
    rotate_left
    · have HF := Lib.hid (HCD.out d hlt (by rw [HDv.out, decide_eq_false (by have := HSt.out; have := HR.out.2.1; omega)]; rfl))
      have hgt : (rn : Int) < (c : Int) := by omega
      go_wp2
      go_ret
      exact ⟨by rw [HF.out]; rfl, HB.out.trans (HBr.out.mono HB.out.size)⟩
    have hgt : ¬ (rn : Int) < (c : Int) := by omega
    have HOc := Lib.hid ((HR.out.1.below HBr.out (by omega)).take hcr)
    go_wp2_with fail
    refine (deviceOk wr B ra c rc d _ HOc.out (by have := HBr.out.size; omega) (by omega)).mono ?_
    rintro e w2 ⟨rfl, hb2⟩
    rw [run_cut]
    have HB2 := Lib.hid (HBr.out.trans (hb2.mono HBr.out.size))
    clear hb2 HOc
    rcases hrun : runB l d (stOf xs d) c with _ | _
    · have HF := Lib.hid (HCD.out d hlt (by rw [HDv.out, hrun, Bool.and_false]))
      clear hrun
      go_wp2
      go_ret
      exact ⟨by rw [HF.out]; rfl, HB.out.trans (HB2.out.mono HB.out.size)⟩
    have HDt : Hid (∀ d', d' < d + 1 → devB xs l d' = true) := fun d' hd' => by
      rcases Nat.lt_or_ge d' d with h1 | h1
      · exact HR.out.2.2 d' h1
      · obtain rfl : d' = d := by omega
        rw [HDv.out, hrun, decide_eq_true (by have := HSt.out; have := HR.out.2.1; omega)]
        rfl
    clear hrun HCD HDv HBr
    have HRl : Hid (stOf xs (d + 1) + (rn - c) = l.length) := by have := HSt.out; have := HR.out.2.1; show _ = _; omega
    have HLd : Hid (l.drop (stOf xs (d + 1)) = (l.drop (stOf xs d)).drop c) := by show _ = _; rw [HSt.out, List.drop_drop]
    have HLl : Hid ((l.drop (stOf xs (d + 1))).length = rn - c) := by show List.length _ = _; rw [List.length_drop]; have := HRl.out; omega
    have hci : (c : Int) ≤ (rn : Int) := by omega
    have hci2 : (c : Int) ≤ (rc : Int) := by omega
    have hrci : (rn : Int) ≤ (rc : Int) := by omega
    by_cases hcc : c = rc
    · obtain rfl : rn = c := by omega
      have HO0 := Lib.hid (fun a => ops_empty (w := w0) (B := B) (a := a) (show (l.drop (stOf xs (d + 1))).length = 0 by rw [HLl.out]; omega))
      go_wp2
      exact ⟨⟨d + 1, 0, 0, ra, by omega, by go_num, rfl, Nat.le_refl _, Nat.zero_le _, ⟨HO0.out ra, (by have := HRl.out; omega), HDt.out⟩, HB2⟩, by simp [intOf]; omega⟩
    · have hcc' : ¬ (rc : Int) = (c : Int) := by omega
      have HOd := Lib.hid (HR.out.1.dropMap hcr)
      rw [← HLd.out] at HOd
      go_wp2
      exact ⟨⟨d + 1, rn - c, rc - c, _, by omega, by go_num, rfl, by omega, hrc2.out.sub c, ⟨HOd.out, HRl.out, HDt.out⟩, HB2⟩, by simp [intOf]; omega⟩
end Go.Proofs.Ytdbdmfaphdjdpaa
