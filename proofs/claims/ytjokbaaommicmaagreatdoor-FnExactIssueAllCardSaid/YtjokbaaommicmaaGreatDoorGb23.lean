/- Walks and mathematics that several claims share, part 23. -/
import Derived.Test.YtjokbaaommicmaaGreatDoorGb1
import Derived.Test.YtjokbaaommicmaaGreatDoorGb21
import Derived.Test.YtjokbaaommicmaaGreatDoorGb17
import Derived.Deep.Cut
import Derived.Deep.RegionHeld3
import Derived.Test.YtjokbaaommicmaaGreatDoorGbA
namespace Go.Proofs.YtjokbaaommicmaaGreatDoor
set_option maxRecDepth 100000
open Go.RowKit

/-- How many operations the devices before d have. -/
def stOf (xs : List Int) : Nat → Nat
 | 0 => 0
 | d + 1 => stOf xs d + (xs.getD d 0).toNat
def devB (xs : List Int) (l : List OpV) (d : Nat) : Bool := decide (stOf xs (d + 1) ≤ l.length) && runB l d (stOf xs d) (xs.getD d 0).toNat
def cartB (xs : List Int) (l : List OpV) : Bool := vecOk xs && ((List.range 4).all (devB xs l) && decide (stOf xs 4 = l.length))
theorem cart_vec {xs : List Int} {l : List OpV} (h : vecOk xs = false) : cartB xs l = false := by unfold cartB; rw [h]; rfl
theorem cart_dev {xs : List Int} {l : List OpV} {d : Nat} (hd : d < 4) (h : devB xs l d = false) : cartB xs l = false := by
 have e : (List.range 4).all (devB xs l) = false := by
  rw [List.all_eq_false]
  exact ⟨d, by simpa using hd, by simp [h]⟩
 unfold cartB
 rw [e]
 simp
theorem cart_end {xs : List Int} {l : List OpV} (h : vecOk xs = true) (hd : ∀ d, d < 4 → devB xs l d = true) : cartB xs l = decide (stOf xs 4 = l.length) := by
 have e : (List.range 4).all (devB xs l) = true := by
  rw [List.all_eq_true]
  intro d hm
  exact hd d (by simpa using hm)
 unfold cartB
 rw [h, e]
 rfl
theorem vec_at {xs : List Int} (h : vecOk xs = true) {d : Nat} (hd : d < 4) : 0 ≤ xs.getD d 0 ∧ xs.getD d 0 ≤ 40 ∧ xs.length = 4 := by
 unfold vecOk at h
 simp only [Bool.and_eq_true, decide_eq_true_eq, List.all_eq_true] at h
 obtain ⟨h1, h2⟩ := h
 have hm : xs.getD d 0 ∈ xs := by
  rw [List.getD_eq_getElem?_getD, List.getElem?_eq_getElem (by omega)]
  exact List.getElem_mem _
 have := inV_true (h1 _ hm)
 exact ⟨this.1, this.2, h2⟩
theorem at_cut {l : List OpV} {st c i : Nat} (hi : i < c) : atOp ((l.drop st).take c) i = atOp l (st + i) := by
 unfold atOp
 rw [List.getD_eq_getElem?_getD, List.getElem?_take_of_lt hi, List.getElem?_drop, List.getD_eq_getElem?_getD]
theorem run_cut {l : List OpV} {dev st c : Nat} : runB ((l.drop st).take c) dev 0 c = runB l dev st c := by
 unfold runB
 rw [Bool.eq_iff_iff, List.all_eq_true, List.all_eq_true]
 have key : ∀ i, i < c → fitB ((l.drop st).take c) dev 0 i = fitB l dev st i := fun i hi => by
  have e1 : atOp ((l.drop st).take c) (0 + i) = atOp l (st + i) := by rw [Nat.zero_add]; exact at_cut hi
  have e2 : prevStamp ((l.drop st).take c) 0 i = prevStamp l st i := by
   unfold prevStamp
   split
   ·rfl
   ·have e : 0 + i - 1 = i - 1 := by omega
    have e' : st + i - 1 = st + (i - 1) := by omega
    rw [e, e', at_cut (by omega)]
  unfold fitB
  rw [e1, e2]
 constructor
 ·intro h i hi
  rw [← key i (by simpa using hi)]
  exact h i hi
 ·intro h i hi
  rw [key i (by simpa using hi)]
  exact h i hi
theorem Ops.take {w : World} {B : Nat} {a : Option Addr} {n : Nat} {l : List OpV} (h : Ops w B a n l) {c : Nat} (hc : c ≤ n) : Ops w B a c (l.take c) :=
 ⟨by rw [List.length_take, h.1]; omega, fun i hi => by
  obtain ⟨b, off, e, hb, ho⟩ := h.2 i (by omega)
  have e2 : (l.take c).getD i OpV.zero = l.getD i OpV.zero := by rw [List.getD_eq_getElem?_getD, List.getElem?_take_of_lt hi, List.getD_eq_getElem?_getD]
  exact ⟨b, off, e, hb, by rw [e2]; exact ho⟩⟩
theorem Ops.dropMap {w : World} {B : Nat} {a : Option Addr} {n : Nat} {l : List OpV} (h : Ops w B a n l) {c : Nat} (hc : c ≤ n) : Ops w B (Option.map (fun x => x.add (c * 8)) a) (n - c) (l.drop c) :=
 ⟨by rw [List.length_drop, h.1], fun i hi => by
  obtain ⟨b, off, e, hb, ho⟩ := h.2 (c + i) (by omega)
  subst e
  have e3 : (l.drop c).getD i OpV.zero = l.getD (c + i) OpV.zero := by rw [List.getD_eq_getElem?_getD, List.getElem?_drop, List.getD_eq_getElem?_getD]
  exact ⟨b, off + c * 8, by rw [Option.map_some, add_at], hb, by rw [e3, show off + c * 8 + i * 8 = off + (c + i) * 8 by omega]; exact ho⟩⟩
theorem ops_empty {w : World} {B : Nat} {a : Option Addr} {l : List OpV} (h : l.length = 0) : Ops w B a 0 l := ⟨h, fun i hi => by omega⟩

set_option maxHeartbeats 20000000 in
theorem implCartOk (w : World) (B : Nat) (av ao : Option Addr) (nv cv no co : Nat) (xs : List Int) (l : List OpV) (hx : Ints w B av nv xs) (h : Ops w B ao no l) (hB : B ≤ w.heap.size) (hv : nv ≤ 1048576) (hc : no ≤ co) (hc2 : Fits no co) :
  Calls Tryz.prog 30 #[.agg #[.slice av nv cv, .slice ao no co]] w fun e w' => e = .returned (.bool (cartB xs l)) ∧ Below w.heap.size w w' := by
 have hn1048 : no ≤ 1048576 := hc2.1
 have hb0 : Below w.heap.size w (w.alloc (.cells #[.slice av nv cv, .slice ao no co] 32)) := (Below.refl _ w).alloc (Nat.le_refl _) _
 have HV := Lib.hid (hx.below hb0 hB)
 have HO := Lib.hid (h.below hb0 hB)
 have HB := Lib.hid hb0
 have HX := Lib.hid (boxAt (Below.refl _ (w.alloc (.cells #[.slice av nv cv, .slice ao no co] 32))))
 have HL := Lib.hid h.1
 have hsz : w.heap.size < (w.alloc (.cells #[.slice av nv cv, .slice ao no co] 32)).heap.size := by show _ < (w.heap.push _).size; simp
 clear hx h hb0
 rcases hvk : vecOk xs with _ | _
 ·have HF := Lib.hid (cart_vec (l := l) hvk)
  have HK := Lib.hid hvk
  clear hvk
  go_enter Tryz.func30, Tryz.ntmps30
  go_wp2_with fail
  refine (implVecOk _ B av nv cv xs HV.out hv).mono ?_
  rintro e w1 ⟨rfl, rfl⟩
  rw [HK.out]
  go_wp2
  go_ret
  exact ⟨by rw [HF.out]; rfl, HB.out⟩
 have HK := Lib.hid hvk
 have h4 : nv = 4 := HV.out.1.symm.trans (vec_at hvk (d := 0) (by omega)).2.2
 subst h4
 have HAt := Lib.hid (fun d (hd : d < 4) => vec_at hvk hd)
 have HCE := Lib.hid (cart_end (l := l) hvk)
 have HCD : Hid (∀ d, d < 4 → devB xs l d = false → cartB xs l = false) := fun d hd h => cart_dev hd h
 clear hvk
 go_enter Tryz.func30, Tryz.ntmps30
 go_wp2_with fail
 generalize w.alloc (.cells #[.slice av 4 cv, .slice ao no co] 32) = w0 at HV HO HB HX hsz ⊢
 refine (implVecOk _ B av 4 cv xs HV.out hv).mono ?_
 rintro e w1 ⟨rfl, rfl⟩
 rw [HK.out]
 obtain ⟨c0, c1⟩ := pair_cells HX.out
 go_wp2
 go_loopw [3, 15] (fun r i wr => ∃ (d rn rc : Nat) (ra : Option Addr), d ≤ 4 ∧ i = .int .i64 d ∧ r = .slice ra rn rc ∧ rn ≤ rc ∧ Hid (CapOk rc) ∧ Hid (Ops w0 B ra rn (l.drop (stOf xs d)) ∧ stOf xs d + rn = l.length ∧ ∀ d', d' < d → devB xs l d' = true) ∧ Hid (Below w0.heap.size w0 wr)) (fun _ i _ => 4 - (intOf i).toNat)
 case atStart => exact ⟨0, no, co, ao, by omega, rfl, rfl, hc, hc2.2, ⟨HO.out, (by rw [HL.out]; simp [stOf]), fun d' hd' => by omega⟩, Below.refl _ _⟩
 case round =>
  obtain ⟨d, rn, rc, ra, hd, rfl, rfl, hrc, hrc2, HR, HBr⟩ := hrel
  by_cases hlt : d < 4
  rotate_left
  ·obtain rfl : d = 4 := by omega
   have HF := Lib.hid (HCE.out HR.out.2.2)
   have HS := Lib.hid HR.out.2.1
   by_cases hz : rn = 0
   ·subst hz
    have HT : Hid (decide (stOf xs 4 = l.length) = true) := decide_eq_true (by have := HS.out; omega)
    go_wp2
    go_ret
    exact ⟨by rw [HF.out, HT.out]; rfl, HB.out.trans (HBr.out.mono HB.out.size)⟩
   ·have hzb : ((rn : Int) == 0) = false := by rw [beq_eq_false_iff_ne]; omega
    have HT : Hid (decide (stOf xs 4 = l.length) = false) := decide_eq_false (by have := HS.out; omega)
    go_wp2
    go_ret
    exact ⟨by rw [HF.out, HT.out]; rfl, HB.out.trans (HBr.out.mono HB.out.size)⟩
  obtain ⟨bv, ov, rfl, hbv, hcv⟩ := HV.out.2 d hlt
  have hcv' := (HBr.out.cell (p := ⟨bv, ov + d, none⟩) (by show bv < w0.heap.size; omega)).trans hcv
  obtain ⟨g1, g2, g3⟩ := HAt.out d hlt
  obtain ⟨c, hcx⟩ := Int.eq_ofNat_of_zero_le g1
  have HSt : Hid (stOf xs (d + 1) = stOf xs d + c) := by show stOf xs (d + 1) = _; rw [stOf, hcx]; rfl
  have HDv : Hid (devB xs l d = (decide (stOf xs (d + 1) ≤ l.length) && runB l d (stOf xs d) c)) := by show devB xs l d = _; unfold devB; rw [hcx]; rfl
  rw [hcx] at hcv' g2
  clear hcv hcx g1 g3
  by_cases hcr : c ≤ rn
  rotate_left
  ·have HF := Lib.hid (HCD.out d hlt (by rw [HDv.out, decide_eq_false (by have := HSt.out; have := HR.out.2.1; omega)]; rfl))
   have hgt : (rn : Int) < (c : Int) := by omega
   go_wp2
   go_ret
   exact ⟨by rw [HF.out]; rfl, HB.out.trans (HBr.out.mono HB.out.size)⟩
  have hgt : ¬ (rn : Int) < (c : Int) := by omega
  have HOc := Lib.hid ((HR.out.1.below HBr.out (by omega)).take hcr)
  go_wp2_with fail
  refine (deviceOk wr B ra c rc d _ HOc.out (by have := HBr.out.size; omega) (by omega)).mono ?_
  rintro e w2 ⟨rfl, hb2⟩
  rw [run_cut]
  have HB2 := Lib.hid (HBr.out.trans (hb2.mono HBr.out.size))
  clear hb2 HOc
  rcases hrun : runB l d (stOf xs d) c with _ | _
  ·have HF := Lib.hid (HCD.out d hlt (by rw [HDv.out, hrun, Bool.and_false]))
   clear hrun
   go_wp2
   go_ret
   exact ⟨by rw [HF.out]; rfl, HB.out.trans (HB2.out.mono HB.out.size)⟩
  have HDt : Hid (∀ d', d' < d + 1 → devB xs l d' = true) := fun d' hd' => by
   rcases Nat.lt_or_ge d' d with h1 | h1
   ·exact HR.out.2.2 d' h1
   ·obtain rfl : d' = d := by omega
    rw [HDv.out, hrun, decide_eq_true (by have := HSt.out; have := HR.out.2.1; omega)]
    rfl
  clear hrun HCD HDv HBr
  have HRl : Hid (stOf xs (d + 1) + (rn - c) = l.length) := by have := HSt.out; have := HR.out.2.1; show _ = _; omega
  have HLd : Hid (l.drop (stOf xs (d + 1)) = (l.drop (stOf xs d)).drop c) := by show _ = _; rw [HSt.out, List.drop_drop]
  have HLl : Hid ((l.drop (stOf xs (d + 1))).length = rn - c) := by show List.length _ = _; rw [List.length_drop]; have := HRl.out; omega
  have hci : (c : Int) ≤ (rn : Int) := by omega
  have hci2 : (c : Int) ≤ (rc : Int) := by omega
  have hrci : (rn : Int) ≤ (rc : Int) := by omega
  by_cases hcc : c = rc
  ·obtain rfl : rn = c := by omega
   have HO0 := Lib.hid (fun a => ops_empty (w := w0) (B := B) (a := a) (show (l.drop (stOf xs (d + 1))).length = 0 by rw [HLl.out]; omega))
   go_wp2
   exact ⟨⟨d + 1, 0, 0, ra, by omega, by go_num, rfl, Nat.le_refl _, Nat.zero_le _, ⟨HO0.out ra, (by have := HRl.out; omega), HDt.out⟩, HB2⟩, by simp [intOf]; omega⟩
  ·have hcc' : ¬ (rc : Int) = (c : Int) := by omega
   have HOd := Lib.hid (HR.out.1.dropMap hcr)
   rw [← HLd.out] at HOd
   go_wp2
   exact ⟨⟨d + 1, rn - c, rc - c, _, by omega, by go_num, rfl, by omega, hrc2.out.sub c, ⟨HOd.out, HRl.out, HDt.out⟩, HB2⟩, by simp [intOf]; omega⟩
def OpV.val (o : OpV) : Value := .agg #[.int .i64 o.dev, .int .i64 o.seq, .int .i64 o.stamp, .int .i64 o.kind, .string o.item, .int .i64 o.qty, .int .i64 o.level, .int .i64 o.undos]
def OpV.live (o : OpV) : Bool := liveB o.dev o.seq o.stamp o.kind o.item o.qty o.level o.undos
def liveTo (l : List OpV) (k : Nat) : List OpV := (l.take k).filter OpV.live
theorem take_at {l : List OpV} {k : Nat} (h : k < l.length) : l.take (k + 1) = l.take k ++ [l.getD k OpV.zero] := by
 rw [List.take_succ_eq_append_getElem h, List.getD_eq_getElem?_getD, List.getElem?_eq_getElem h]
 rfl
theorem liveTo_yes {l : List OpV} {k : Nat} (hk : k < l.length) (h : (l.getD k OpV.zero).live = true) : liveTo l (k + 1) = liveTo l k ++ [l.getD k OpV.zero] := by
 unfold liveTo
 rw [take_at hk, List.filter_append, List.filter_cons, if_pos h, List.filter_nil]
theorem liveTo_no {l : List OpV} {k : Nat} (hk : k < l.length) (h : (l.getD k OpV.zero).live = false) : liveTo l (k + 1) = liveTo l k := by
 unfold liveTo
 rw [take_at hk, List.filter_append, List.filter_cons, if_neg (by rw [h]; exact Bool.false_ne_true), List.filter_nil, List.append_nil]
theorem liveTo_len (l : List OpV) (k : Nat) : (liveTo l k).length ≤ k := by
 unfold liveTo
 exact Nat.le_trans (List.length_filter_le _ _) (List.length_take_le _ _)
/-- In a valid cart each place has the operation of its device and number. -/
theorem cart_split {xs : List Int} {l : List OpV} (h : cartB xs l = true) : vecOk xs = true ∧ (∀ d, d < 4 → devB xs l d = true) ∧ stOf xs 4 = l.length := by
 unfold cartB at h
 simp only [Bool.and_eq_true, decide_eq_true_eq, List.all_eq_true] at h
 exact ⟨h.1, fun d hd => h.2.1 d (by simpa using hd), h.2.2⟩
theorem st_find {xs : List Int} {i : Nat} : ∀ d, i < stOf xs d → ∃ e k, e < d ∧ k < (xs.getD e 0).toNat ∧ i = stOf xs e + k
 | 0, h => by simp [stOf] at h
 | d + 1, h => by
  rcases Nat.lt_or_ge i (stOf xs d) with h1 | h1
  ·obtain ⟨e, k, he, hk, hi⟩ := st_find d h1
   exact ⟨e, k, by omega, hk, hi⟩
  ·rw [stOf] at h
   exact ⟨d, i - stOf xs d, by omega, by omega, by omega⟩
theorem cart_atV {xs : List Int} {l : List OpV} (h : cartB xs l = true) {i : Nat} (hi : i < l.length) :
  ∃ d k, d < 4 ∧ k < (xs.getD d 0).toNat ∧ i = stOf xs d + k ∧ (atOp l i).ok = true ∧ (atOp l i).dev = (d : Int) ∧ (atOp l i).seq = (k : Int) + 1 := by
 obtain ⟨_, hd, hs⟩ := cart_split h
 obtain ⟨d, k, h1, h2, rfl⟩ := st_find (xs := xs) 4 (by rw [hs]; exact hi)
 have hb := hd d h1
 unfold devB at hb
 simp only [Bool.and_eq_true, decide_eq_true_eq] at hb
 have hr := hb.2
 unfold runB at hr
 rw [List.all_eq_true] at hr
 have hf := hr k (by simpa using h2)
 unfold fitB at hf
 simp only [Bool.and_eq_true, decide_eq_true_eq] at hf
 exact ⟨d, k, h1, h2, rfl, hf.1, hf.2.1, hf.2.2.1⟩
/-- Two places with one device and number are one place. -/
theorem cart_one {xs : List Int} {l : List OpV} (h : cartB xs l = true) {i j : Nat} (hi : i < l.length) (hj : j < l.length) (hd : (atOp l i).dev = (atOp l j).dev) (hs : (atOp l i).seq = (atOp l j).seq) : i = j := by
 obtain ⟨d, k, _, _, rfl, _, h1, h2⟩ := cart_atV h hi
 obtain ⟨e, m, _, _, rfl, _, g1, g2⟩ := cart_atV h hj
 obtain rfl : d = e := by have := h1.symm.trans (hd.trans g1); omega
 have := h2.symm.trans (hs.trans g2)
 omega
theorem live_ok {o : OpV} (h : o.ok = true) : o.live = decide (o.undos % 2 = 0) := by
 unfold OpV.live liveB
 unfold OpV.ok at h
 rw [h]
 rfl

/-- The greatest number of a device's operation among some. -/
def lastOf (dev : Int) (pre : List OpV) : Int := pre.foldl (fun n o => if o.dev = dev then max n o.seq else n) 0
theorem lastOf_snoc (dev : Int) (pre : List OpV) (o : OpV) : lastOf dev (pre ++ [o]) = if o.dev = dev then max (lastOf dev pre) o.seq else lastOf dev pre := by
 unfold lastOf
 rw [List.foldl_append]
 rfl
theorem cart_mono {xs : List Int} {l : List OpV} (h : cartB xs l = true) {i j : Nat} (hij : i < j) (hj : j < l.length) (hd : (atOp l i).dev = (atOp l j).dev) : (atOp l i).seq < (atOp l j).seq := by
 obtain ⟨d, k, _, _, hi, _, h1, h2⟩ := cart_atV h (i := i) (by omega)
 obtain ⟨e, m, _, _, hj', _, g1, g2⟩ := cart_atV h hj
 obtain rfl : d = e := by have := h1.symm.trans (hd.trans g1); omega
 rw [h2, g2]
 omega
/-- The model's last live operation of a device, among the first k. -/
def undoTo (dev : Int) (l : List OpV) : Nat → Int
 | 0 => 0
 | k + 1 => if (l.getD k OpV.zero).dev = dev ∧ (l.getD k OpV.zero).undos % 2 = 0 then (l.getD k OpV.zero).seq else undoTo dev l k
theorem undo_from (dev : Int) (l : List OpV) : ∀ k, undoTo dev l k = 0 ∨ ∃ i, i < k ∧ (atOp l i).dev = dev ∧ undoTo dev l k = (atOp l i).seq
 | 0 => .inl rfl
 | k + 1 => by
  rw [undoTo]
  split
  ·rename_i h
   exact .inr ⟨k, by omega, h.1, rfl⟩
  ·rcases undo_from dev l k with h | ⟨i, hi, h⟩
   ·exact .inl h
   ·exact .inr ⟨i, by omega, h⟩
theorem undo_last {xs : List Int} {l : List OpV} (hc : cartB xs l = true) (dev : Int) : ∀ k, k ≤ l.length → lastOf dev (liveTo l k) = undoTo dev l k
 | 0, _ => rfl
 | k + 1, hk => by
  have hk' : k < l.length := hk
  have ih := undo_last hc dev k (by omega)
  obtain ⟨d, m, _, _, _, hok, hdv, hsq⟩ := cart_atV hc hk'
  have hl := live_ok hok
  have e : atOp l k = l.getD k OpV.zero := rfl
  rw [e] at hl hdv hsq
  by_cases hu : (l.getD k OpV.zero).undos % 2 = 0
  ·rw [liveTo_yes hk' (by rw [hl, decide_eq_true hu]), lastOf_snoc, ih, undoTo]
   by_cases hd : (l.getD k OpV.zero).dev = dev
   ·rw [if_pos hd, if_pos ⟨hd, hu⟩]
    rcases undo_from dev l k with h | ⟨i, hi, h1, h2⟩
    ·rw [h]; omega
    ·have := cart_mono hc hi hk' (h1.trans hd.symm)
     rw [e] at this
     rw [h2]; omega
   ·rw [if_neg hd, if_neg (fun h => hd h.1)]
  ·rw [liveTo_no hk' (by rw [hl, decide_eq_false hu]), ih, undoTo, if_neg (fun h => hu h.2)]
theorem undo_nobody {xs : List Int} {l : List OpV} (hc : cartB xs l = true) {dev : Int} (hd : ¬ (0 ≤ dev ∧ dev ≤ 3)) : ∀ k, k ≤ l.length → undoTo dev l k = 0
 | 0, _ => rfl
 | k + 1, hk => by
  obtain ⟨d, m, h4, _, _, _, hdv, _⟩ := cart_atV hc (i := k) hk
  have e : atOp l k = l.getD k OpV.zero := rfl
  rw [e] at hdv
  rw [undoTo, if_neg (fun h => hd (by rw [← h.1, hdv]; omega)), undo_nobody hc hd k (by omega)]
theorem undo_le {xs : List Int} {l : List OpV} (hc : cartB xs l = true) (d : Nat) (k : Nat) (hk : k ≤ l.length) : 0 ≤ undoTo (d : Int) l k ∧ undoTo (d : Int) l k ≤ 40 := by
 rcases undo_from (d : Int) l k with h | ⟨i, hi, h1, h2⟩
 ·rw [h]; omega
 ·obtain ⟨e, m, he, hm, _, _, hdv, hsq⟩ := cart_atV hc (i := i) (by omega)
  have := (vec_at (cart_split hc).1 he).2.1
  rw [h2, hsq]
  omega
/-- A device's n-th operation is there just where its element of the vector says so. -/
theorem cart_hasV {xs : List Int} {l : List OpV} (hc : cartB xs l = true) {d : Nat} (hd : d < 4) {n : Int} (hn : 1 ≤ n) : n ≤ xs.getD d 0 ↔ ∃ i, i < l.length ∧ (atOp l i).dev = (d : Int) ∧ (atOp l i).seq = n := by
 obtain ⟨hv, hdv, hs⟩ := cart_split hc
 constructor
 ·intro h
  have hb := hdv d hd
  unfold devB at hb
  simp only [Bool.and_eq_true, decide_eq_true_eq] at hb
  have hx := vec_at hv hd
  have hi : stOf xs d + (n.toNat - 1) < l.length := by have := hb.1; rw [stOf] at this; omega
  refine ⟨stOf xs d + (n.toNat - 1), hi, ?_⟩
  have hr := hb.2
  unfold runB at hr
  rw [List.all_eq_true] at hr
  have hf := hr (n.toNat - 1) (by rw [List.mem_range]; omega)
  unfold fitB at hf
  simp only [Bool.and_eq_true, decide_eq_true_eq] at hf
  exact ⟨hf.2.1, by rw [hf.2.2.1]; omega⟩
 ·rintro ⟨i, hi, h1, h2⟩
  obtain ⟨e, m, he, hm, _, _, g1, g2⟩ := cart_atV hc hi
  obtain rfl : e = d := by have := g1.symm.trans h1; omega
  rw [← h2, g2]
  omega
set_option linter.unusedVariables false

/-- The greatest stamp of the first k operations. -/
def stampTo (l : List OpV) : Nat → Int
 | 0 => 0
 | k + 1 => max (stampTo l k) (atOp l k).stamp
theorem stampTo_pos (l : List OpV) : ∀ k, 0 ≤ stampTo l k
 | 0 => Int.le_refl _
 | k + 1 => by have := stampTo_pos l k; rw [stampTo]; omega
theorem stampTo_le {l : List OpV} {N : Int} (hN : 0 ≤ N) (h : ∀ i, i < l.length → (atOp l i).stamp ≤ N) : ∀ k, k ≤ l.length → stampTo l k ≤ N
 | 0, _ => hN
 | k + 1, hk => by
  have := stampTo_le hN h k (by omega)
  have := h k (by omega)
  rw [stampTo]
  omega
/-- How many operations stand ahead of the first of a later device. -/
def putAt (dev : Int) (l : List OpV) : Nat := (l.takeWhile fun x => decide (x.dev ≤ dev)).length
theorem putAt_le (dev : Int) (l : List OpV) : putAt dev l ≤ l.length := by unfold putAt; exact (List.takeWhile_sublist _).length_le
theorem putAt_at {dev : Int} : ∀ {l : List OpV} {i : Nat}, i < putAt dev l → (atOp l i).dev ≤ dev
 | [], i, h => absurd h (by simp [putAt])
 | x :: l, i, h => by
  by_cases hx : x.dev ≤ dev
  ·match i with
   | 0 => exact hx
   | j + 1 =>
    have : j < putAt dev l := by
     unfold putAt at h ⊢
     rw [List.takeWhile_cons, if_pos (by simpa using hx), List.length_cons] at h
     omega
    have h2 : (atOp l j).dev ≤ dev := putAt_at this
    exact h2
  ·unfold putAt at h
   rw [List.takeWhile_cons, if_neg (by simpa using hx)] at h
   simp at h
theorem putAt_end {dev : Int} : ∀ {l : List OpV}, putAt dev l < l.length → ¬ (atOp l (putAt dev l)).dev ≤ dev
 | [], h => absurd h (by simp)
 | x :: l, h => by
  by_cases hx : x.dev ≤ dev
  ·have e : putAt dev (x :: l) = putAt dev l + 1 := by
    unfold putAt
    rw [List.takeWhile_cons, if_pos (by simpa using hx), List.length_cons]
   rw [e] at h ⊢
   have h2 : ¬ (atOp l (putAt dev l)).dev ≤ dev := putAt_end (l := l) (by simpa using h)
   exact h2
  ·have e : putAt dev (x :: l) = 0 := by
    unfold putAt
    rw [List.takeWhile_cons, if_neg (by simpa using hx)]
    rfl
   rw [e]
   exact hx
/-- An operation as a device's next one. -/
def nextOp (xs : List Int) (l : List OpV) (d : Nat) (o : OpV) : OpV := { o with dev := (d : Int), seq := xs.getD d 0 + 1, stamp := stampTo l l.length + 1 }
def putV (xs : List Int) (d : Nat) : List Int := xs.set d (xs.getD d 0 + 1)
def putL (l : List OpV) (d : Nat) (o : OpV) : List OpV := l.take (putAt (d : Int) l) ++ [o] ++ l.drop (putAt (d : Int) l)
theorem putL_len (l : List OpV) (d : Nat) (o : OpV) : (putL l d o).length = l.length + 1 := by
 unfold putL
 have := putAt_le (d : Int) l
 simp
 omega
def onceMore (o : OpV) : OpV := { o with undos := o.undos + 1 }
def togU (l : List OpV) (i : Nat) : List OpV := l.set i (onceMore (atOp l i))
theorem togL_len (l : List OpV) (i : Nat) : (togU l i).length = l.length := by unfold togU; simp
theorem set_getD {α : Type} {l : List α} {i j : Nat} {x d : α} (hi : i < l.length) : (l.set i x).getD j d = if i = j then x else l.getD j d := by
 rw [List.getD_eq_getElem?_getD, List.getElem?_set]
 by_cases e : i = j
 ·rw [if_pos e, if_pos e, if_pos hi]; rfl
 ·rw [if_neg e, if_neg e, List.getD_eq_getElem?_getD]
set_option maxHeartbeats 20000000 in
theorem specCartOk (w : World) (B : Nat) (av ao : Option Addr) (nv cv no co : Nat) (xs : List Int) (l : List OpV) (hx : Ints w B av nv xs) (h : Ops w B ao no l) (hB : B ≤ w.heap.size) (hv : nv ≤ 1048576) (hn : no ≤ 1048576) (hm : ∀ i, i < no → (atOp l i).item.size ≤ 1048576) :
  Calls Tryz.prog 34 #[.agg #[.slice av nv cv, .slice ao no co]] w fun e w' => e = .returned (.bool (cartB xs l)) ∧ Below w.heap.size w w' := by
 have hb0 : Below w.heap.size w (w.alloc (.cells #[.slice av nv cv, .slice ao no co] 32)) := (Below.refl _ w).alloc (Nat.le_refl _) _
 have HV := Lib.hid (hx.below hb0 hB)
 have HO := Lib.hid (h.below hb0 hB)
 have HB := Lib.hid hb0
 have HX := Lib.hid (boxAt (Below.refl _ (w.alloc (.cells #[.slice av nv cv, .slice ao no co] 32))))
 have HL := Lib.hid h.1
 have HM := Lib.hid hm
 have hsz : w.heap.size < (w.alloc (.cells #[.slice av nv cv, .slice ao no co] 32)).heap.size := by show _ < (w.heap.push _).size; simp
 clear hx h hb0 hm
 rcases hvk : vecOk xs with _ | _
 ·have HF := Lib.hid (cart_vec (l := l) hvk)
  have HK := Lib.hid hvk
  clear hvk
  go_enter Tryz.func34, Tryz.ntmps34
  go_wp2_with fail
  refine (specVecOk _ B av nv cv xs HV.out hv).mono ?_
  rintro e w1 ⟨rfl, rfl⟩
  rw [HK.out]
  go_wp2
  go_ret
  exact ⟨by rw [HF.out]; rfl, HB.out⟩
 have HK := Lib.hid hvk
 have h4 : nv = 4 := HV.out.1.symm.trans (vec_at hvk (d := 0) (by omega)).2.2
 subst h4
 have HAt := Lib.hid (fun d (hd : d < 4) => vec_at hvk hd)
 have HCE := Lib.hid (cart_end (l := l) hvk)
 have HCD : Hid (∀ d, d < 4 → devB xs l d = false → cartB xs l = false) := fun d hd h => cart_dev hd h
 clear hvk
 go_enter Tryz.func34, Tryz.ntmps34
 go_wp2_with fail
 generalize w.alloc (.cells #[.slice av 4 cv, .slice ao no co] 32) = w0 at HV HO HB HX hsz ⊢
 refine (specVecOk _ B av 4 cv xs HV.out hv).mono ?_
 rintro e w1 ⟨rfl, rfl⟩
 rw [HK.out]
 go_wp2
 go_loopw [3, 4] (fun t i wr => ∃ (d at' : Nat), d ≤ 4 ∧ i = .int .i64 d ∧ t = .int .i64 at' ∧ at' ≤ no ∧ Hid (at' = stOf xs d ∧ ∀ d', d' < d → devB xs l d' = true) ∧ Hid (Below w0.heap.size w0 wr)) (fun _ i _ => 4 - (intOf i).toNat)
 case atStart => exact ⟨0, 0, by omega, rfl, rfl, Nat.zero_le _, ⟨rfl, fun d' hd' => by omega⟩, Below.refl _ _⟩
 case round =>
  obtain ⟨d, st, hd, rfl, rfl, hst, HR, HBr⟩ := hrel
  obtain ⟨c0, c1⟩ := pair_cells ((HBr.out.block _ (by omega)).trans HX.out)
  by_cases hlt : d < 4
  rotate_left
  ·obtain rfl : d = 4 := by omega
   have HF := Lib.hid (HCE.out HR.out.2)
   by_cases hz : st = no
   ·have hzb : ((st : Int) == (no : Int)) = true := by rw [hz]; exact beq_self_eq_true _
    have HT : Hid (decide (stOf xs 4 = l.length) = true) := decide_eq_true (by rw [← HR.out.1, HL.out]; exact hz)
    clear hz
    go_wp2
    go_ret
    exact ⟨by rw [HF.out, HT.out]; first | rfl | (simp [*]), HB.out.trans (HBr.out.mono HB.out.size)⟩
   ·have hzb : ((st : Int) == (no : Int)) = false := by rw [beq_eq_false_iff_ne]; omega
    have HT : Hid (decide (stOf xs 4 = l.length) = false) := decide_eq_false (by rw [← HR.out.1, HL.out]; exact hz)
    clear hz
    go_wp2
    go_ret
    exact ⟨by rw [HF.out, HT.out]; first | rfl | (simp [*]), HB.out.trans (HBr.out.mono HB.out.size)⟩
  obtain ⟨bv, ov, rfl, hbv, hcv⟩ := HV.out.2 d hlt
  obtain ⟨g1, g2, g3⟩ := HAt.out d hlt
  obtain ⟨c, hcx⟩ := Int.eq_ofNat_of_zero_le g1
  have HSt : Hid (stOf xs (d + 1) = st + c) := by show stOf xs (d + 1) = _; rw [stOf, hcx, ← HR.out.1]; rfl
  have HDv : Hid (devB xs l d = (decide (stOf xs (d + 1) ≤ l.length) && runB l d st c)) := by show devB xs l d = _; unfold devB; rw [hcx, ← HR.out.1]; rfl
  rw [hcx] at hcv g2
  clear hcx g1 g3 c0 c1
  have hc40 : c ≤ 40 := by omega
  clear g2
  have HCV := Lib.hid hcv
  have hd4 : decide ((d : Int) < 4) = true := decide_eq_true (by omega)
  clear hcv
  go_wp2
  go_loopw [3, 5, 6] (fun t s q wi => ∃ (i m : Nat), i ≤ c ∧ q = .int .i64 ((i : Int) + 1) ∧ t = .int .i64 (m : Int) ∧ s = .int .i64 (prevStamp l st i) ∧ m ≤ no ∧ Hid (m = st + i) ∧ Hid (runB l d st i = true) ∧ Hid (Below w0.heap.size w0 wi)) (fun _ _ q _ => c + 1 - (intOf q).toNat)
  case atStart => exact ⟨0, st, Nat.zero_le _, rfl, rfl, rfl, hst, rfl, rfl, HBr⟩
  case round =>
   obtain ⟨i, m, hi, rfl, rfl, rfl, hin, HMi, HRun, HBi⟩ := hrel
   obtain ⟨c0, c1⟩ := pair_cells ((HBi.out.block _ (by omega)).trans HX.out)
   have cv := (HBi.out.cell (p := ⟨bv, ov + d, none⟩) (by show bv < w0.heap.size; omega)).trans HCV.out
   by_cases hic : i < c
   rotate_left
   ·obtain rfl : i = c := by omega
    have hle : ¬ ((i : Int) + 1 ≤ (i : Int)) := by omega
    have HDt : Hid (∀ d', d' < d + 1 → devB xs l d' = true) := fun d' hd' => by
     rcases Nat.lt_or_ge d' d with h1 | h1
     ·exact HR.out.2 d' h1
     ·obtain rfl : d' = d := by omega
      rw [HDv.out, HRun.out, decide_eq_true (by rw [HSt.out, HL.out]; have := HMi.out; omega)]
      rfl
    go_wp2
    exact ⟨⟨d + 1, m, by omega, by go_num, rfl, hin, ⟨(by rw [HSt.out]; exact HMi.out), HDt.out⟩, HBi⟩, by simp [intOf]; omega⟩
   have hle : ((i : Int) + 1 ≤ (c : Int)) := by omega
   by_cases hmn : m = no
   ·have hb1 : ((m : Int) == (no : Int)) = true := by rw [hmn]; exact beq_self_eq_true _
    have HF := Lib.hid (HCD.out d hlt (by rw [HDv.out, decide_eq_false (by rw [HSt.out, HL.out]; have := HMi.out; omega)]; rfl))
    clear hmn
    go_wp2
    go_ret
    exact ⟨by rw [HF.out]; rfl, HB.out.trans (HBi.out.mono HB.out.size)⟩
   have hb1 : ((m : Int) == (no : Int)) = false := by rw [beq_eq_false_iff_ne]; omega
   have hmlt : m < no := by omega
   have hmi : (m : Int) < (no : Int) := by omega
   have hm0 : (0 : Int) ≤ (m : Int) := by omega
   clear hmn
   obtain ⟨b, off, rfl, hb, ho⟩ := HO.out.2 m hmlt
   have HO1 := Lib.hid ho
   have HIt := Lib.hid (HM.out m hmlt)
   have HA : Hid (l.getD m OpV.zero = atOp l (st + i)) := by show _ = _; rw [HMi.out]; rfl
   have HA2 : Hid (atOp l m = atOp l (st + i)) := by show _ = _; rw [HMi.out]
   rw [HA.out] at HO1
   rw [HA2.out] at HIt
   clear ho HA HA2
   have HPs := Lib.hid (prev_step l st i)
   have HY := Lib.hid (@fit_yes l d st i)
   have HZ : Hid (∀ b, fitB l d st i = b → b = false → cartB xs l = false) := fun b hb hb' => HCD.out d hlt (by rw [HDv.out, run_stop hic (hb.trans hb'), Bool.and_false])
   have H1 := Lib.hid (fun h => HZ.out _ (@fit_ok l d st i h) rfl)
   have H2 := Lib.hid (fun h => HZ.out _ (@fit_dev l d st i h) rfl)
   have H3 := Lib.hid (fun h => HZ.out _ (@fit_seq l d st i h) rfl)
   have H4 := Lib.hid (fun h => HZ.out _ (@fit_stamp l d st i h) rfl)
   have HN := Lib.hid (fun h => run_step (dev := d) HRun.out h)
   clear HZ
   generalize atOp l (st + i) = x at HPs HY H1 H2 H3 H4 HO1 HIt
   generalize prevStamp l st i = ps at HY H4 ⊢
   obtain ⟨d0, d1, d2, d3, d4, d5, d6, d7⟩ := HO1.out.kept (HBi.out.block b (by omega))
   go_wp2_with fail
   refine (specOpOk x.dev x.seq x.stamp x.kind x.item x.qty x.level x.undos _ HIt.out).mono ?_
   rintro e w2 ⟨rfl, hb2⟩
   have HB2 := Lib.hid (HBi.out.trans (hb2.mono HBi.out.size))
   clear hb2 c0 c1 cv d0 d1 d2 d3 d4 d5 d6 d7
   obtain ⟨c0, c1⟩ := pair_cells ((HB2.out.block _ (by omega)).trans HX.out)
   obtain ⟨d0, d1, d2, d3, d4, d5, d6, d7⟩ := HO1.out.kept (HB2.out.block b (by omega))
   rcases hok : opB x.dev x.seq x.stamp x.kind x.item x.qty x.level x.undos with _ | _
   ·have HF := Lib.hid (H1.out hok)
    clear hok
    go_wp2
    go_ret
    exact ⟨by rw [HF.out]; rfl, HB.out.trans (HB2.out.mono HB.out.size)⟩
   by_cases e1 : x.dev = (d : Int)
   rotate_left
   ·have HF := Lib.hid (H2.out e1)
    have b1 : (x.dev != (d : Int)) = true := by rw [bne_iff_ne]; exact e1
    clear hok e1
    go_wp2
    go_ret
    exact ⟨by rw [HF.out]; rfl, HB.out.trans (HB2.out.mono HB.out.size)⟩
   have b1 : (x.dev != (d : Int)) = false := by rw [e1]; exact bne_self_eq_false _
   by_cases e2 : x.seq = (i : Int) + 1
   rotate_left
   ·have HF := Lib.hid (H3.out e2)
    have b2 : (x.seq != (i : Int) + 1) = true := by rw [bne_iff_ne]; exact e2
    clear hok e1 e2
    go_wp2
    go_ret
    exact ⟨by rw [HF.out]; rfl, HB.out.trans (HB2.out.mono HB.out.size)⟩
   have b2 : (x.seq != (i : Int) + 1) = false := by rw [e2]; exact bne_self_eq_false _
   by_cases e3 : ps < x.stamp
   rotate_left
   ·have HF := Lib.hid (H4.out (by first | exact e3 | exact Int.not_lt.1 e3))
    have b3 : decide (x.stamp ≤ ps) = true := decide_eq_true (by omega)
    clear hok e1 e2 e3
    go_wp2
    go_ret
    exact ⟨by rw [HF.out]; rfl, HB.out.trans (HB2.out.mono HB.out.size)⟩
   have b3 : decide (x.stamp ≤ ps) = false := decide_eq_false (by omega)
   have HF := Lib.hid (HN.out (HY.out hok e1 e2 e3))
   clear hok e1 e2 e3
   go_wp2
   go_roundw
   case rel => exact ⟨i + 1, m + 1, by omega, by go_num, by go_num, by rw [HPs.out], by omega, (by have := HMi.out; show m + 1 = st + (i + 1); omega), HF, HB2⟩
   case measure => simp [intOf]; omega
set_option maxHeartbeats 5000000 in
theorem eqCartV (w : World) (a a' o o' : Option Addr) (c c' d d' : Nat) (xs : List Int) (l : List OpV) (h1 : Ints w w.heap.size a xs.length xs) (h2 : Ints w w.heap.size a' xs.length xs) (h3 : Ops w w.heap.size o l.length l) (h4 : Ops w w.heap.size o' l.length l) (hx : xs.length ≤ 1048576) (hl : l.length ≤ 1048576) : Calls Tryz.prog 12 #[.agg #[.slice a xs.length c, .slice o l.length d], .agg #[.slice a' xs.length c', .slice o' l.length d']] w fun e w' => e = .returned (.bool true) ∧ Below w.heap.size w w' := by
 have hT := Two.mk0 w #[.slice a xs.length c, .slice o l.length d] #[.slice a' xs.length c', .slice o' l.length d'] 32
 have H1 := Lib.hid (h1.below hT.bel (Nat.le_refl _))
 have H2 := Lib.hid (h2.below hT.bel (Nat.le_refl _))
 have H3 := Lib.hid (h3.below hT.bel (Nat.le_refl _))
 have H4 := Lib.hid (h4.below hT.bel (Nat.le_refl _))
 have HT := Lib.hid hT
 clear h1 h2 h3 h4 hT
 go_enter Tryz.func12, Tryz.ntmps12
 go_wp2_with fail
 generalize (w.alloc (.cells #[.slice a xs.length c, .slice o l.length d] 32)).alloc (.cells #[.slice a' xs.length c', .slice o' l.length d'] 32) = w0 at H1 H2 H3 H4 HT ⊢
 refine (eqInts w0 _ _ _ _ _ _ _ _ xs xs H1.out H2.out hx hx).mono ?_
 rintro e w1 ⟨rfl, hS⟩
 rw [decide_eq_true rfl]
 have HT1 := Lib.hid (HT.out.next (hS.below _))
 have H31 := Lib.hid (H3.out.kept fun k _ => hS.block k)
 have H41 := Lib.hid (H4.out.kept fun k _ => hS.block k)
 clear hS H1 H2 H3 H4 HT
 have hc1 := pair_cells HT1.out.fst
 have hc2 := pair_cells HT1.out.snd
 obtain ⟨c0, c1⟩ := hc1
 obtain ⟨d0, d1⟩ := hc2
 have hsz := HT1.out.bel.size
 go_wp2_with fail
 refine (eqOpsV w1 _ _ _ _ _ _ _ l H31.out H41.out (by omega) (by omega) hl).mono ?_
 rintro e w2 ⟨rfl, hb⟩
 have HB := Lib.hid (HT1.out.bel.trans (hb.mono HT1.out.bel.size))
 clear hb c0 c1 d0 d1
 go_wp2
 go_ret
 exact ⟨rfl, HB.out⟩
theorem total_item {l : List OpV} {t : Nat} (h : opsTotal l ≤ t) : l.length ≤ t ∧ ∀ i, i < l.length → (atOp l i).item.size ≤ t := by
 unfold opsTotal at h
 refine ⟨by omega, fun i hi => ?_⟩
 have h1 := itemsTo_step (l := l) (k := i) hi
 have h2 := itemsTo_le l (i + 1) l.length hi (Nat.le_refl _)
 have e : (atOp l i).item.size = (l.getD i OpV.zero).item.size := rfl
 omega

def befW (a b : OpV) : Bool := befB a.dev a.seq a.stamp a.kind a.item a.qty a.level a.undos b.dev b.seq b.stamp b.kind b.item b.qty b.level b.undos
def preV (a b : OpV) : Bool := preB a.stamp a.dev a.seq b.stamp b.dev b.seq
def laterV (a b : OpV) : OpV := if befW b a = true then a else b
structure StV where
 level : Int
 counted : OpV
 placed : OpV
def StV.zero : StV := ⟨0, OpV.zero, OpV.zero⟩
def cntB (kind : Int) : Bool := decide (kind = 1 ∨ kind = 2)
def plcB (kind : Int) : Bool := decide (kind = 1 ∨ kind = 4 ∨ kind = 5)
def withV (s : StV) (o : OpV) : StV := ⟨max s.level o.level, if cntB o.kind = true then laterV s.counted o else s.counted, if plcB o.kind = true then laterV s.placed o else s.placed⟩
def stateV (item : ByteArray) (pre : List OpV) : StV := pre.foldl (fun s o => if o.item = item then withV s o else s) StV.zero
theorem stateV_snoc (item : ByteArray) (pre : List OpV) (o : OpV) : stateV item (pre ++ [o]) = if o.item = item then withV (stateV item pre) o else stateV item pre := by
 unfold stateV
 rw [List.foldl_append]
 rfl
theorem stateV_level (item : ByteArray) (pre : List OpV) : 0 ≤ (stateV item pre).level := by
 unfold stateV
 have : ∀ (l : List OpV) (s : StV), 0 ≤ s.level → 0 ≤ (l.foldl (fun s o => if o.item = item then withV s o else s) s).level := by
  intro l
  induction l with
  | nil => intro s h; exact h
  | cons o l ih =>
   intro s h
   rw [List.foldl_cons]
   refine ih _ ?_
   split
   ·show 0 ≤ max _ _; omega
   ·exact h
 exact this pre StV.zero (Int.le_refl _)
/-- The model's level after the first k operations. -/
def levTo (item : ByteArray) (l : List OpV) : Nat → Int
 | 0 => 0
 | k + 1 => if (l.getD k OpV.zero).item = item ∧ (l.getD k OpV.zero).undos % 2 = 0 then max (levTo item l k) (l.getD k OpV.zero).level else levTo item l k
/-- The model's last operation of some kinds after the first k. -/
def bestTo (P : Int → Bool) (item : ByteArray) (l : List OpV) : Nat → OpV
 | 0 => OpV.zero
 | k + 1 => if (P (l.getD k OpV.zero).kind = true ∧ (l.getD k OpV.zero).item = item ∧ (l.getD k OpV.zero).undos % 2 = 0) ∧ ((bestTo P item l k).kind = 0 ∨ preV (bestTo P item l k) (l.getD k OpV.zero) = true) then l.getD k OpV.zero else bestTo P item l k
theorem bestTo_from (P : Int → Bool) (item : ByteArray) (l : List OpV) : ∀ k, bestTo P item l k = OpV.zero ∨ ∃ i, i < k ∧ bestTo P item l k = atOp l i
 | 0 => .inl rfl
 | k + 1 => by
  rw [bestTo]
  split
  ·exact .inr ⟨k, by omega, rfl⟩
  ·rcases bestTo_from P item l k with h | ⟨i, hi, h⟩
   ·exact .inl h
   ·exact .inr ⟨i, by omega, h⟩
theorem ok_kind {o : OpV} (h : o.ok = true) : 1 ≤ o.kind ∧ o.kind ≤ 5 := by
 unfold OpV.ok opB tailB at h
 simp only [Bool.and_eq_true] at h
 have := inB_iff.1 h.2.1
 exact this
theorem zero_bad : OpV.zero.ok = false := by
 rcases h : OpV.zero.ok with _ | _
 ·rfl
 ·have := ok_kind h
  have e : OpV.zero.kind = 0 := rfl
  omega
theorem bef_ok {a b : OpV} (ha : a.ok = true) (hb : b.ok = true) : befW a b = preV a b := by
 unfold befW befB
 unfold OpV.ok at ha hb
 rw [ha, hb]
 rfl
theorem bef_bad {a b : OpV} (hb : b.ok = false) : befW a b = false := by
 unfold befW befB
 unfold OpV.ok at hb
 rw [hb]
 simp
/-- Of two operations that are not one place, one precedes the other, and not both. -/
theorem pre_flip {a b : OpV} (h : a.dev ≠ b.dev ∨ a.seq ≠ b.seq) : preV a b = !preV b a := by
 unfold preV preB
 rcases Int.lt_trichotomy a.stamp b.stamp with h1 | h1 | h1 <;> rcases Int.lt_trichotomy a.dev b.dev with h2 | h2 | h2 <;> rcases Int.lt_trichotomy a.seq b.seq with h3 | h3 | h3 <;> (rw [Bool.eq_iff_iff]; simp; omega)
theorem later_best {xs : List Int} {l : List OpV} (hc : cartB xs l = true) (P : Int → Bool) (item : ByteArray) {k : Nat} (hk : k < l.length) :
  laterV (bestTo P item l k) (l.getD k OpV.zero) = if (bestTo P item l k).kind = 0 ∨ preV (bestTo P item l k) (l.getD k OpV.zero) = true then l.getD k OpV.zero else bestTo P item l k := by
 obtain ⟨_, _, _, _, _, hok, _, _⟩ := cart_atV hc hk
 unfold laterV
 rcases bestTo_from P item l k with h | ⟨i, hi, h⟩
 ·rw [h, bef_bad zero_bad, if_neg (by simp), if_pos (.inl rfl)]
 ·obtain ⟨_, _, _, _, _, hoki, _, _⟩ := cart_atV hc (i := i) (by omega)
  rw [h]
  have hn : (atOp l i).kind ≠ 0 := by have := ok_kind hoki; omega
  have hne : (atOp l i).dev ≠ (l.getD k OpV.zero).dev ∨ (atOp l i).seq ≠ (l.getD k OpV.zero).seq := by
   rcases Classical.em ((atOp l i).dev = (l.getD k OpV.zero).dev) with h1 | h1
   ·right; intro h2
    have := cart_one hc (i := i) (j := k) (by omega) hk h1 h2
    omega
   ·exact .inl h1
  have hb : befW (l.getD k OpV.zero) (atOp l i) = preV (l.getD k OpV.zero) (atOp l i) := bef_ok hok hoki
  rw [hb, pre_flip hne]
  cases preV (l.getD k OpV.zero) (atOp l i)
  ·rw [if_neg (by simp), if_pos (.inr rfl)]
  ·rw [if_pos rfl, if_neg (by simp [hn])]
theorem state_to {xs : List Int} {l : List OpV} (hc : cartB xs l = true) (item : ByteArray) : ∀ k, k ≤ l.length → stateV item (liveTo l k) = ⟨levTo item l k, bestTo cntB item l k, bestTo plcB item l k⟩
 | 0, _ => rfl
 | k + 1, hk => by
  have hk' : k < l.length := hk
  have ih := state_to hc item k (by omega)
  obtain ⟨_, _, _, _, _, hok, _, _⟩ := cart_atV hc hk'
  have hl := live_ok hok
  have e : atOp l k = l.getD k OpV.zero := rfl
  rw [e] at hl
  by_cases hu : (l.getD k OpV.zero).undos % 2 = 0
  ·rw [liveTo_yes hk' (by rw [hl, decide_eq_true hu]), stateV_snoc]
   by_cases hi : (l.getD k OpV.zero).item = item
   ·rw [if_pos hi, ih, levTo, if_pos ⟨hi, hu⟩, bestTo, bestTo]
    unfold withV
    simp only []
    congr 1
    ·cases hP : cntB (l.getD k OpV.zero).kind
     ·rw [if_neg (by simp), if_neg (by simp)]
     ·rw [if_pos rfl, later_best hc cntB item hk']
      simp only [hi, hu, true_and, and_self]
    ·cases hP : plcB (l.getD k OpV.zero).kind
     ·rw [if_neg (by simp), if_neg (by simp)]
     ·rw [if_pos rfl, later_best hc plcB item hk']
      simp only [hi, hu, true_and, and_self]
   ·rw [if_neg hi, ih, levTo, if_neg (fun h => hi h.1), bestTo, if_neg (fun h => hi h.1.2.1), bestTo, if_neg (fun h => hi h.1.2.1)]
  ·rw [liveTo_no hk' (by rw [hl, decide_eq_false hu]), ih, levTo, if_neg (fun h => hu h.2), bestTo, if_neg (fun h => hu h.1.2.2), bestTo, if_neg (fun h => hu h.1.2.2)]
theorem op_bounds {o : OpV} (h : o.ok = true) : 1 ≤ o.seq ∧ o.seq ≤ 40 ∧ 1 ≤ o.stamp ∧ o.stamp ≤ 100000 ∧ o.item.size ≤ 8 ∧ 0 ≤ o.undos ∧ o.undos ≤ 50 ∧ 0 ≤ o.level ∧ o.level ≤ 100 := by
 have h' : opB o.dev o.seq o.stamp o.kind o.item o.qty o.level o.undos = true := h
 unfold opB headB tailB at h'
 simp only [Bool.and_eq_true] at h'
 obtain ⟨⟨_, hs, ht, hi, hu⟩, _, _, hl⟩ := h'
 unfold inB at hs ht hu
 have hs := of_decide_eq_true hs
 have ht := of_decide_eq_true ht
 have hu := of_decide_eq_true hu
 unfold itemB at hi
 rw [Bool.and_eq_true] at hi
 have hi := of_decide_eq_true hi.1
 have hlv : 0 ≤ o.level ∧ o.level ≤ 100 := by
  unfold lB at hl
  split at hl
  ·rw [Bool.and_eq_true] at hl
   have := of_decide_eq_true (show decide (1 ≤ o.level ∧ o.level ≤ 100) = true from hl.1)
   omega
  ·split at hl
   ·rw [Bool.and_eq_true] at hl
    have := of_decide_eq_true (show decide (2 ≤ o.level ∧ o.level ≤ 100) = true from hl.1)
    omega
   ·have := of_decide_eq_true hl
    omega
 exact ⟨hs.1, hs.2, ht.1, ht.2, hi.2, hu.1, hu.2, hlv.1, hlv.2⟩
theorem cart_op {xs : List Int} {l : List OpV} (h : cartB xs l = true) {i : Nat} (hi : i < l.length) : (atOp l i).ok = true := by
 obtain ⟨_, _, _, _, _, hok, _⟩ := cart_atV h hi
 exact hok
theorem cart_vecs {xs : List Int} {l : List OpV} (h : cartB xs l = true) : xs.length = 4 ∧ ∀ d, d < 4 → 0 ≤ xs.getD d 0 ∧ xs.getD d 0 ≤ 40 := by
 have hv : vecOk xs = true := by
  cases e : vecOk xs
  ·rw [cart_vec e] at h; cases h
  ·rfl
 unfold vecOk at hv
 rw [Bool.and_eq_true] at hv
 have hl := of_decide_eq_true hv.2
 refine ⟨hl, fun d hd => ?_⟩
 have hm : xs.getD d 0 ∈ xs := by rw [List.getD_eq_getElem?_getD, List.getElem?_eq_getElem (by omega)]; exact List.getElem_mem _
 have := List.all_eq_true.1 hv.1 _ hm
 exact inV_true this
theorem cart_length {xs : List Int} {l : List OpV} (h : cartB xs l = true) : l.length ≤ 160 := by
 have hv := (cart_vecs h).2
 unfold cartB at h
 rw [Bool.and_eq_true, Bool.and_eq_true] at h
 have hs := of_decide_eq_true h.2.2
 have h0 := hv 0 (by omega)
 have h1 := hv 1 (by omega)
 have h2 := hv 2 (by omega)
 have h3 := hv 3 (by omega)
 have : stOf xs 4 = (((0 + (xs.getD 0 0).toNat) + (xs.getD 1 0).toNat) + (xs.getD 2 0).toNat) + (xs.getD 3 0).toNat := rfl
 omega
theorem cart_level {xs : List Int} {l : List OpV} (h : cartB xs l = true) (item : ByteArray) : ∀ k, k ≤ l.length → levTo item l k ≤ 100
 | 0, _ => by show (0 : Int) ≤ 100; omega
 | k + 1, hk => by
  have ih := cart_level h item k (by omega)
  have hb := op_bounds (cart_op h (i := k) (by omega))
  have e : l.getD k OpV.zero = atOp l k := rfl
  rw [levTo, e]
  split
  ·omega
  ·exact ih
end Go.Proofs.YtjokbaaommicmaaGreatDoor
