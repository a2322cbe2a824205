/- Walks and mathematics that several claims share, part 8. -/
import Derived.Test.YthkagbnpcjidfaaGreatDoorGy0
import Derived.Test.YthkagbnpcjidfaaGreatDoorGy5
import Derived.Test.YthkagbnpcjidfaaGreatDoorGy7
import Derived.Deep.Cut
import Derived.Deep.RegionHeld3
import Derived.Test.YthkagbnpcjidfaaGreatDoorGyA
namespace Go.Proofs.YthkagbnpcjidfaaGreatDoor
set_option maxHeartbeats 20000000
set_option maxRecDepth 100000
open Go.RowKit
set_option linter.unusedVariables false
set_option linter.unusedSimpArgs false

/-- How many operations the devices before d have. -/
def aR (xs : List Int) : Nat → Nat
 | 0 => 0
 | d + 1 => aR xs d + (xs.getD d 0).toNat
def kM (xs : List Int) (l : List aA) (d : Nat) : Bool := decide (aR xs (d + 1) ≤ l.length) && oD l d (aR xs d) (xs.getD d 0).toNat
def aE (xs : List Int) (l : List aA) : Bool := cU xs && ((List.range 4).all (kM xs l) && decide (aR xs 4 = l.length))
theorem aBd {xs : List Int} {l : List aA} (h : cU xs = false) : aE xs l = false := by unfold aE; rw [h]; rfl
theorem aEJ {xs : List Int} {l : List aA} {d : Nat} (hd : d < 4) (h : kM xs l d = false) : aE xs l = false := by
 have e : (List.range 4).all (kM xs l) = false := by
  rw [List.all_eq_false]; exact ⟨d, by simpa using hd, by simp [h]⟩
 unfold aE
 rw [e]
 simp
theorem aBf {xs : List Int} {l : List aA} (h : cU xs = true) (hd : ∀ d, d < 4 → kM xs l d = true) : aE xs l = decide (aR xs 4 = l.length) := by
 have e : (List.range 4).all (kM xs l) = true := by
  rw [List.all_eq_true]
  intro d hm
  exact hd d (by simpa using hm)
 unfold aE
 rw [h, e]
 rfl
theorem gR {xs : List Int} (h : cU xs = true) {d : Nat} (hd : d < 4) : 0 ≤ xs.getD d 0 ∧ xs.getD d 0 ≤ 40 ∧ xs.length = 4 := by
 unfold cU at h
 simp only [Bool.and_eq_true, decide_eq_true_eq, List.all_eq_true] at h
 obtain ⟨h1, h2⟩ := h
 have hm : xs.getD d 0 ∈ xs := by
  rw [List.getD_eq_getElem?_getD, List.getElem?_eq_getElem (by omega)]
  exact List.getElem_mem _
 have := U8 (h1 _ hm)
 exact ⟨this.1, this.2, h2⟩
theorem aIQ {l : List aA} {st c i : Nat} (hi : i < c) : aC ((l.drop st).take c) i = aC l (st + i) := by
 unfold aC
 rw [List.getD_eq_getElem?_getD, List.getElem?_take_of_lt hi, List.getElem?_drop, List.getD_eq_getElem?_getD]
theorem aLA {l : List aA} {dev st c : Nat} : oD ((l.drop st).take c) dev 0 c = oD l dev st c := by
 unfold oD
 rw [Bool.eq_iff_iff, List.all_eq_true, List.all_eq_true]
 have key : ∀ i, i < c → mD ((l.drop st).take c) dev 0 i = mD l dev st i := fun i hi => by
  have e1 : aC ((l.drop st).take c) (0 + i) = aC l (st + i) := by rw [Nat.zero_add]; exact aIQ hi
  have e2 : eE ((l.drop st).take c) 0 i = eE l st i := by
   unfold eE
   split
   ·rfl
   ·have e : 0 + i - 1 = i - 1 := by omega
    have e' : st + i - 1 = st + (i - 1) := by omega
    rw [e, e', aIQ (by omega)]
  unfold mD; rw [e1, e2]
 constructor
 ·intro h i hi
  rw [← key i (by simpa using hi)]
  exact h i hi
 ·intro h i hi
  rw [key i (by simpa using hi)]
  exact h i hi
theorem bS.take {w : World} {B : Nat} {a : Option Addr} {n : Nat} {l : List aA} (h : bS w B a n l) {c : Nat} (hc : c ≤ n) : bS w B a c (l.take c) :=
 ⟨by rw [List.length_take, h.1]; omega, fun i hi => by
  obtain ⟨b, off, e, hb, ho⟩ := h.2 i (by omega)
  have e2 : (l.take c).getD i aA.zero = l.getD i aA.zero := by rw [List.getD_eq_getElem?_getD, List.getElem?_take_of_lt hi, List.getD_eq_getElem?_getD]
  exact ⟨b, off, e, hb, by rw [e2]; exact ho⟩⟩
theorem bS.dropMap {w : World} {B : Nat} {a : Option Addr} {n : Nat} {l : List aA} (h : bS w B a n l) {c : Nat} (hc : c ≤ n) : bS w B (Option.map (fun x => x.add (c * 8)) a) (n - c) (l.drop c) :=
 ⟨by rw [List.length_drop, h.1], fun i hi => by
  obtain ⟨b, off, e, hb, ho⟩ := h.2 (c + i) (by omega)
  subst e; have e3 : (l.drop c).getD i aA.zero = l.getD (c + i) aA.zero := by rw [List.getD_eq_getElem?_getD, List.getElem?_drop, List.getD_eq_getElem?_getD]
  exact ⟨b, off + c * 8, by rw [Option.map_some, uI], hb, by rw [e3, show off + c * 8 + i * 8 = off + (c + i) * 8 by omega]; exact ho⟩⟩
theorem aCY {w : World} {B : Nat} {a : Option Addr} {l : List aA} (h : l.length = 0) : bS w B a 0 l := ⟨h, fun i hi => by omega⟩

theorem tD (w : World) (B : Nat) (av ao : Option Addr) (nv cv no co : Nat) (xs : List Int) (l : List aA) (hx : Ints w B av nv xs) (h : bS w B ao no l) (hB : B ≤ w.heap.size) (hv : nv ≤ 1048576) (hc : no ≤ co) (cM : Fits no co) :
  Calls Tryz.prog 23 #[.agg #[.slice av nv cv, .slice ao no co]] w fun e w' => e = .returned (.bool (aE xs l)) ∧ Below w.heap.size w w' := by
 have J5 : no ≤ 1048576 := cM.1
 have aW : Below w.heap.size w (w.alloc (.cells #[.slice av nv cv, .slice ao no co] 27)) := (Below.refl _ w).alloc aRC _
 have HV := aRA (hx.below aW hB)
 have HO := aRA (h.below aW hB)
 have HB := aRA aW
 have HX := aRA (bL (Below.refl _ (w.alloc (.cells #[.slice av nv cv, .slice ao no co] 27))))
 have HL := aRA h.1
 have dK : w.heap.size < (w.alloc (.cells #[.slice av nv cv, .slice ao no co] 27)).heap.size := by show _ < (w.heap.push _).size; simp
 clear hx h aW
 rcases hvk : cU xs with _ | _
 ·have HF := aRA (aBd (l := l) hvk)
  have HK := aRA hvk; clear hvk
  go_enter Tryz.func23, Tryz.ntmps23
  go_wp2_with fail
  refine (aDc _ B av nv cv xs HV.out hv).mono ?_
  rintro e w1 ⟨rfl, rfl⟩; rw [HK.out]; go_wp2
  go_ret
  exact ⟨by rw [HF.out]; rfl, HB.out⟩
 have HK := aRA hvk
 have h4 : nv = 4 := HV.out.1.symm.trans (gR hvk (d := 0) (by omega)).2.2
 subst h4
 have HAt := aRA (fun d (hd : d < 4) => gR hvk hd)
 have HCE := aRA (aBf (l := l) hvk)
 have HCD : Hid (∀ d, d < 4 → kM xs l d = false → aE xs l = false) := fun d hd h => aEJ hd h
 clear hvk
 go_enter Tryz.func23, Tryz.ntmps23
 go_wp2_with fail
 generalize w.alloc (.cells #[.slice av 4 cv, .slice ao no co] 27) = w0 at HV HO HB HX dK ⊢
 refine (aDc _ B av 4 cv xs HV.out hv).mono ?_
 rintro e w1 ⟨rfl, rfl⟩
 rw [HK.out]
 obtain ⟨c0, c1⟩ := pair_cells HX.out
 go_wp2
 go_loopw [3, 15] (fun r i wr => ∃ (d rn rc : Nat) (ra : Option Addr), d ≤ 4 ∧ i = .int .i64 d ∧ r = .slice ra rn rc ∧ rn ≤ rc ∧ Hid (zR rc) ∧ Hid (bS w0 B ra rn (l.drop (aR xs d)) ∧ aR xs d + rn = l.length ∧ ∀ d', d' < d → kM xs l d' = true) ∧ Hid (Below w0.heap.size w0 wr)) (fun _ i _ => 4 - (intOf i).toNat)
 case atStart => exact ⟨0, no, co, ao, by omega, rfl, rfl, hc, cM.2, ⟨HO.out, (by rw [HL.out]; simp [aR]), fun d' hd' => by omega⟩, Below.refl _ _⟩
 case round =>
  obtain ⟨d, rn, rc, ra, hd, rfl, rfl, Y0, aPD, HR, cR⟩ := hrel
  by_cases aK : d < 4
  rotate_left
  ·obtain rfl : d = 4 := by omega
   have HF := aRA (HCE.out HR.out.2.2); have HS := aRA HR.out.2.1
   by_cases hz : rn = 0
   ·subst hz
    have HT : Hid (decide (aR xs 4 = l.length) = true) := decide_eq_true (by have := HS.out; omega)
    go_wp2
    go_ret
    exact ⟨by rw [HF.out, HT.out]; rfl, HB.out.trans (cR.out.mono HB.out.size)⟩
   ·have hzb : ((rn : Int) == 0) = false := by rw [beq_eq_false_iff_ne]; omega
    have HT : Hid (decide (aR xs 4 = l.length) = false) := decide_eq_false (by have := HS.out; omega)
    go_wp2
    go_ret
    exact ⟨by rw [HF.out, HT.out]; rfl, HB.out.trans (cR.out.mono HB.out.size)⟩
  obtain ⟨bv, ov, rfl, hbv, bI⟩ := HV.out.2 d aK; have aP2 := (cR.out.cell (p := ⟨bv, ov + d, none⟩) (by show bv < w0.heap.size; omega)).trans bI
  obtain ⟨g1, g2, g3⟩ := HAt.out d aK; obtain ⟨c, hcx⟩ := Int.eq_ofNat_of_zero_le g1; have cZ : Hid (aR xs (d + 1) = aR xs d + c) := by show aR xs (d + 1) = _; rw [aR, hcx]; rfl
  have HDv : Hid (kM xs l d = (decide (aR xs (d + 1) ≤ l.length) && oD l d (aR xs d) c)) := by show kM xs l d = _; unfold kM; rw [hcx]; rfl
  rw [hcx] at aP2 g2; clear bI hcx g1 g3
  by_cases lI : c ≤ rn
  rotate_left
  ·have HF := aRA (HCD.out d aK (by rw [HDv.out, decide_eq_false (by have := cZ.out; have := HR.out.2.1; omega)]; rfl))
   have hgt : (rn : Int) < (c : Int) := by omega
   go_wp2
   go_ret
   exact ⟨by rw [HF.out]; rfl, HB.out.trans (cR.out.mono HB.out.size)⟩
  have hgt : ¬ (rn : Int) < (c : Int) := by omega
  have HOc := aRA ((HR.out.1.below cR.out (by omega)).take lI)
  go_wp2_with fail
  refine (aJ4 wr B ra c rc d _ HOc.out (by have := cR.out.size; omega) (by omega)).mono ?_
  rintro e w2 ⟨rfl, aN⟩; rw [aLA]; have bK := aRA (cR.out.trans (aN.mono cR.out.size)); clear aN HOc; rcases hrun : oD l d (aR xs d) c with _ | _
  ·have HF := aRA (HCD.out d aK (by rw [HDv.out, hrun, Bool.and_false]))
   clear hrun; go_wp2
   go_ret
   exact ⟨by rw [HF.out]; rfl, HB.out.trans (bK.out.mono HB.out.size)⟩
  have HDt : Hid (∀ d', d' < d + 1 → kM xs l d' = true) := fun d' hd' => by
   rcases Nat.lt_or_ge d' d with h1 | h1
   ·exact HR.out.2.2 d' h1
   ·obtain rfl : d' = d := by omega
    rw [HDv.out, hrun, decide_eq_true (by have := cZ.out; have := HR.out.2.1; omega)]
    rfl
  clear hrun HCD HDv cR; have HRl : Hid (aR xs (d + 1) + (rn - c) = l.length) := by have := cZ.out; have := HR.out.2.1; show _ = _; omega
  have HLd : Hid (l.drop (aR xs (d + 1)) = (l.drop (aR xs d)).drop c) := by show _ = _; rw [cZ.out, List.drop_drop]
  have HLl : Hid ((l.drop (aR xs (d + 1))).length = rn - c) := by show List.length _ = _; rw [List.length_drop]; have := HRl.out; omega
  have hci : (c : Int) ≤ (rn : Int) := by omega
  have aRl : (c : Int) ≤ (rc : Int) := by omega
  have aQX : (rn : Int) ≤ (rc : Int) := by omega
  by_cases pY : c = rc
  ·obtain rfl : rn = c := by omega
   have HO0 := aRA (fun a => aCY (w := w0) (B := B) (a := a) (show (l.drop (aR xs (d + 1))).length = 0 by rw [HLl.out]; omega))
   go_wp2
   exact ⟨⟨d + 1, 0, 0, ra, by omega, by go_num, rfl, Nat.le_refl _, Nat.zero_le _, ⟨HO0.out ra, (by have := HRl.out; omega), HDt.out⟩, bK⟩, by simp [intOf]; omega⟩
  ·have aRm : ¬ (rc : Int) = (c : Int) := by omega
   have HOd := aRA (HR.out.1.dropMap lI); rw [← HLd.out] at HOd; go_wp2
   exact ⟨⟨d + 1, rn - c, rc - c, _, by omega, by go_num, rfl, by omega, aPD.out.sub c, ⟨HOd.out, HRl.out, HDt.out⟩, bK⟩, by simp [intOf]; omega⟩
def aA.val (o : aA) : Value := .agg #[.int .i64 o.dev, .int .i64 o.seq, .int .i64 o.stamp, .int .i64 o.kind, .string o.item, .int .i64 o.qty, .int .i64 o.level, .int .i64 o.undos]
def aA.live (o : aA) : Bool := aAx o.dev o.seq o.stamp o.kind o.item o.qty o.level o.undos
def jC (l : List aA) (k : Nat) : List aA := (l.take k).filter aA.live
theorem take_at {l : List aA} {k : Nat} (h : k < l.length) : l.take (k + 1) = l.take k ++ [l.getD k aA.zero] := by
 rw [List.take_succ_eq_append_getElem h, List.getD_eq_getElem?_getD, List.getElem?_eq_getElem h]
 rfl
theorem U3 {l : List aA} {k : Nat} (hk : k < l.length) (h : (l.getD k aA.zero).live = true) : jC l (k + 1) = jC l k ++ [l.getD k aA.zero] := by
 unfold jC
 rw [take_at hk, List.filter_append, List.filter_cons, if_pos h, List.filter_nil]
theorem m8 {l : List aA} {k : Nat} (hk : k < l.length) (h : (l.getD k aA.zero).live = false) : jC l (k + 1) = jC l k := by
 unfold jC
 rw [take_at hk, List.filter_append, List.filter_cons, if_neg (by rw [h]; exact Bool.false_ne_true), List.filter_nil, List.append_nil]
theorem aBy (l : List aA) (k : Nat) : (jC l k).length ≤ k := by
 unfold jC
 exact Nat.le_trans (List.length_filter_le _ _) (List.length_take_le _ _)
/-- In a valid cart each place has the operation of its device and number. -/
theorem tF {xs : List Int} {l : List aA} (h : aE xs l = true) : cU xs = true ∧ (∀ d, d < 4 → kM xs l d = true) ∧ aR xs 4 = l.length := by
 unfold aE at h
 simp only [Bool.and_eq_true, decide_eq_true_eq, List.all_eq_true] at h
 exact ⟨h.1, fun d hd => h.2.1 d (by simpa using hd), h.2.2⟩
theorem aFz {xs : List Int} {i : Nat} : ∀ d, i < aR xs d → ∃ e k, e < d ∧ k < (xs.getD e 0).toNat ∧ i = aR xs e + k
 | 0, h => by simp [aR] at h
 | d + 1, h => by
  rcases Nat.lt_or_ge i (aR xs d) with h1 | h1
  ·obtain ⟨e, k, he, hk, hi⟩ := aFz d h1
   exact ⟨e, k, by omega, hk, hi⟩
  ·rw [aR] at h
   exact ⟨d, i - aR xs d, by omega, by omega, by omega⟩
theorem gX {xs : List Int} {l : List aA} (h : aE xs l = true) {i : Nat} (hi : i < l.length) :
  ∃ d k, d < 4 ∧ k < (xs.getD d 0).toNat ∧ i = aR xs d + k ∧ (aC l i).ok = true ∧ (aC l i).dev = (d : Int) ∧ (aC l i).seq = (k : Int) + 1 := by
 obtain ⟨_, hd, hs⟩ := tF h
 obtain ⟨d, k, h1, h2, rfl⟩ := aFz (xs := xs) 4 (by rw [hs]; exact hi)
 have hb := hd d h1
 unfold kM at hb
 simp only [Bool.and_eq_true, decide_eq_true_eq] at hb
 have hr := hb.2
 unfold oD at hr
 rw [List.all_eq_true] at hr
 have hf := hr k (by simpa using h2)
 unfold mD at hf
 simp only [Bool.and_eq_true, decide_eq_true_eq] at hf
 exact ⟨d, k, h1, h2, rfl, hf.1, hf.2.1, hf.2.2.1⟩
/-- Two places with one device and number are one place. -/
theorem aKd {xs : List Int} {l : List aA} (h : aE xs l = true) {i j : Nat} (hi : i < l.length) (hj : j < l.length) (hd : (aC l i).dev = (aC l j).dev) (hs : (aC l i).seq = (aC l j).seq) : i = j := by
 obtain ⟨d, k, _, _, rfl, _, h1, h2⟩ := gX h hi
 obtain ⟨e, m, _, _, rfl, _, g1, g2⟩ := gX h hj
 obtain rfl : d = e := by have := h1.symm.trans (hd.trans g1); omega
 have := h2.symm.trans (hs.trans g2)
 omega
theorem aCs {o : aA} (h : o.ok = true) : o.live = decide (o.undos % 2 = 0) := by
 unfold aA.live aAx
 unfold aA.ok at h
 rw [h]
 rfl

/-- The greatest number of a device's operation among some. -/
def lastOf (dev : Int) (bR : List aA) : Int := bR.foldl (fun n o => if o.dev = dev then max n o.seq else n) 0
theorem aAP (dev : Int) (bR : List aA) (o : aA) : lastOf dev (bR ++ [o]) = if o.dev = dev then max (lastOf dev bR) o.seq else lastOf dev bR := by
 unfold lastOf
 rw [List.foldl_append]
 rfl
theorem O2 {xs : List Int} {l : List aA} (h : aE xs l = true) {i j : Nat} (hij : i < j) (hj : j < l.length) (hd : (aC l i).dev = (aC l j).dev) : (aC l i).seq < (aC l j).seq := by
 obtain ⟨d, k, _, _, hi, _, h1, h2⟩ := gX h (i := i) (by omega)
 obtain ⟨e, m, _, _, hj', _, g1, g2⟩ := gX h hj
 obtain rfl : d = e := by have := h1.symm.trans (hd.trans g1); omega
 rw [h2, g2]
 omega
/-- The model's last live operation of a device, among the first k. -/
def cY (dev : Int) (l : List aA) : Nat → Int
 | 0 => 0
 | k + 1 => if (l.getD k aA.zero).dev = dev ∧ (l.getD k aA.zero).undos % 2 = 0 then (l.getD k aA.zero).seq else cY dev l k
theorem zT (dev : Int) (l : List aA) : ∀ k, cY dev l k = 0 ∨ ∃ i, i < k ∧ (aC l i).dev = dev ∧ cY dev l k = (aC l i).seq
 | 0 => .inl rfl
 | k + 1 => by
  rw [cY]
  split
  ·rename_i h
   exact .inr ⟨k, by omega, h.1, rfl⟩
  ·rcases zT dev l k with h | ⟨i, hi, h⟩
   ·exact .inl h
   ·exact .inr ⟨i, by omega, h⟩
theorem aCQ {xs : List Int} {l : List aA} (hc : aE xs l = true) (dev : Int) : ∀ k, k ≤ l.length → lastOf dev (jC l k) = cY dev l k
 | 0, _ => rfl
 | k + 1, hk => by
  have pJ : k < l.length := hk; have ih := aCQ hc dev k (by omega)
  obtain ⟨d, m, _, _, _, hok, jP, hsq⟩ := gX hc pJ; have hl := aCs hok; have e : aC l k = l.getD k aA.zero := rfl; rw [e] at hl jP hsq
  by_cases hu : (l.getD k aA.zero).undos % 2 = 0
  ·rw [U3 pJ (by rw [hl, decide_eq_true hu]), aAP, ih, cY]
   by_cases hd : (l.getD k aA.zero).dev = dev
   ·rw [if_pos hd, if_pos ⟨hd, hu⟩]
    rcases zT dev l k with h | ⟨i, hi, h1, h2⟩
    ·rw [h]; omega
    ·have := O2 hc hi pJ (h1.trans hd.symm)
     rw [e] at this; rw [h2]; omega
   ·rw [if_neg hd, if_neg (fun h => hd h.1)]
  ·rw [m8 pJ (by rw [hl, decide_eq_false hu]), ih, cY, if_neg (fun h => hu h.2)]
theorem aAK {xs : List Int} {l : List aA} (hc : aE xs l = true) {dev : Int} (hd : ¬ (0 ≤ dev ∧ dev ≤ 3)) : ∀ k, k ≤ l.length → cY dev l k = 0
 | 0, _ => rfl
 | k + 1, hk => by
  obtain ⟨d, m, h4, _, _, _, jP, _⟩ := gX hc (i := k) hk; have e : aC l k = l.getD k aA.zero := rfl; rw [e] at jP; rw [cY, if_neg (fun h => hd (by rw [← h.1, jP]; omega)), aAK hc hd k (by omega)]
theorem aFx {xs : List Int} {l : List aA} (hc : aE xs l = true) (d : Nat) (k : Nat) (hk : k ≤ l.length) : 0 ≤ cY (d : Int) l k ∧ cY (d : Int) l k ≤ 40 := by
 rcases zT (d : Int) l k with h | ⟨i, hi, h1, h2⟩
 ·rw [h]; omega
 ·obtain ⟨e, m, he, hm, _, _, jP, hsq⟩ := gX hc (i := i) (by omega)
  have := (gR (tF hc).1 he).2.1; rw [h2, hsq]; omega
/-- A device's n-th operation is there just where its element of the vector says so. -/
theorem aIO {xs : List Int} {l : List aA} (hc : aE xs l = true) {d : Nat} (hd : d < 4) {n : Int} (hn : 1 ≤ n) : n ≤ xs.getD d 0 ↔ ∃ i, i < l.length ∧ (aC l i).dev = (d : Int) ∧ (aC l i).seq = n := by
 obtain ⟨hv, jP, hs⟩ := tF hc
 constructor
 ·intro h
  have hb := jP d hd; unfold kM at hb; simp only [Bool.and_eq_true, decide_eq_true_eq] at hb
  have hx := gR hv hd; have hi : aR xs d + (n.toNat - 1) < l.length := by have := hb.1; rw [aR] at this; omega
  refine ⟨aR xs d + (n.toNat - 1), hi, ?_⟩
  have hr := hb.2; unfold oD at hr; rw [List.all_eq_true] at hr; have hf := hr (n.toNat - 1) (by rw [List.mem_range]; omega)
  unfold mD at hf; simp only [Bool.and_eq_true, decide_eq_true_eq] at hf
  exact ⟨hf.2.1, by rw [hf.2.2.1]; omega⟩
 ·rintro ⟨i, hi, h1, h2⟩
  obtain ⟨e, m, he, hm, _, _, g1, g2⟩ := gX hc hi; obtain rfl : e = d := by have := g1.symm.trans h1; omega
  rw [← h2, g2]; omega
set_option linter.unusedVariables false

/-- The greatest stamp of the first k operations. -/
def dM (l : List aA) : Nat → Int
 | 0 => 0
 | k + 1 => max (dM l k) (aC l k).stamp
theorem rP (l : List aA) : ∀ k, 0 ≤ dM l k
 | 0 => Int.le_refl _
 | k + 1 => by have := rP l k; rw [dM]; omega
theorem wC {l : List aA} {N : Int} (hN : 0 ≤ N) (h : ∀ i, i < l.length → (aC l i).stamp ≤ N) : ∀ k, k ≤ l.length → dM l k ≤ N
 | 0, _ => hN
 | k + 1, hk => by
  have := wC hN h k (by omega)
  have := h k (by omega)
  rw [dM]; omega
/-- How many operations stand ahead of the first of a later device. -/
def putAt (dev : Int) (l : List aA) : Nat := (l.takeWhile fun x => decide (x.dev ≤ dev)).length
theorem qP (dev : Int) (l : List aA) : putAt dev l ≤ l.length := by unfold putAt; exact (List.takeWhile_sublist _).length_le
theorem aA0 {dev : Int} : ∀ {l : List aA} {i : Nat}, i < putAt dev l → (aC l i).dev ≤ dev
 | [], i, h => absurd h (by simp [putAt])
 | x :: l, i, h => by
  by_cases hx : x.dev ≤ dev
  ·match i with
   | 0 => exact hx
   | j + 1 =>
    have : j < putAt dev l := by
     unfold putAt at h ⊢; rw [List.takeWhile_cons, if_pos (by simpa using hx), List.length_cons] at h
     omega
    have h2 : (aC l j).dev ≤ dev := aA0 this; exact h2
  ·unfold putAt at h
   rw [List.takeWhile_cons, if_neg (by simpa using hx)] at h
   simp at h
theorem j8 {dev : Int} : ∀ {l : List aA}, putAt dev l < l.length → ¬ (aC l (putAt dev l)).dev ≤ dev
 | [], h => absurd h (by simp)
 | x :: l, h => by
  by_cases hx : x.dev ≤ dev
  ·have e : putAt dev (x :: l) = putAt dev l + 1 := by
    unfold putAt; rw [List.takeWhile_cons, if_pos (by simpa using hx), List.length_cons]
   rw [e] at h ⊢; have h2 : ¬ (aC l (putAt dev l)).dev ≤ dev := j8 (l := l) (by simpa using h)
   exact h2
  ·have e : putAt dev (x :: l) = 0 := by
    unfold putAt; rw [List.takeWhile_cons, if_neg (by simpa using hx)]
    rfl
   rw [e]; exact hx
/-- An operation as a device's next one. -/
def aJ (xs : List Int) (l : List aA) (d : Nat) (o : aA) : aA := { o with dev := (d : Int), seq := xs.getD d 0 + 1, stamp := dM l l.length + 1 }
def dU (xs : List Int) (d : Nat) : List Int := xs.set d (xs.getD d 0 + 1)
def bO (l : List aA) (d : Nat) (o : aA) : List aA := l.take (putAt (d : Int) l) ++ [o] ++ l.drop (putAt (d : Int) l)
theorem uT (l : List aA) (d : Nat) (o : aA) : (bO l d o).length = l.length + 1 := by
 unfold bO
 have := qP (d : Int) l
 simp
 omega
def lY (o : aA) : aA := { o with undos := o.undos + 1 }
def fB (l : List aA) (i : Nat) : List aA := l.set i (lY (aC l i))
theorem nH (l : List aA) (i : Nat) : (fB l i).length = l.length := by unfold fB; simp
theorem jM {α : Type} {l : List α} {i j : Nat} {x d : α} (hi : i < l.length) : (l.set i x).getD j d = if i = j then x else l.getD j d := by
 rw [List.getD_eq_getElem?_getD, List.getElem?_set]
 by_cases e : i = j
 ·rw [if_pos e, if_pos e, if_pos hi]; rfl
 ·rw [if_neg e, if_neg e, List.getD_eq_getElem?_getD]
theorem wF (w : World) (B : Nat) (av ao : Option Addr) (nv cv no co : Nat) (xs : List Int) (l : List aA) (hx : Ints w B av nv xs) (h : bS w B ao no l) (hB : B ≤ w.heap.size) (hv : nv ≤ 1048576) (hn : no ≤ 1048576) (hm : ∀ i, i < no → (aC l i).item.size ≤ 1048576) :
  Calls Tryz.prog 36 #[.agg #[.slice av nv cv, .slice ao no co]] w fun e w' => e = .returned (.bool (aE xs l)) ∧ Below w.heap.size w w' := by
 have aW : Below w.heap.size w (w.alloc (.cells #[.slice av nv cv, .slice ao no co] 27)) := (Below.refl _ w).alloc aRC _
 have HV := aRA (hx.below aW hB)
 have HO := aRA (h.below aW hB)
 have HB := aRA aW
 have HX := aRA (bL (Below.refl _ (w.alloc (.cells #[.slice av nv cv, .slice ao no co] 27))))
 have HL := aRA h.1
 have HM := aRA hm
 have dK : w.heap.size < (w.alloc (.cells #[.slice av nv cv, .slice ao no co] 27)).heap.size := by show _ < (w.heap.push _).size; simp
 clear hx h aW hm
 rcases hvk : cU xs with _ | _
 ·have HF := aRA (aBd (l := l) hvk)
  have HK := aRA hvk; clear hvk
  go_enter Tryz.func36, Tryz.ntmps36
  go_wp2_with fail
  refine (sC _ B av nv cv xs HV.out hv).mono ?_
  rintro e w1 ⟨rfl, rfl⟩; rw [HK.out]; go_wp2
  go_ret
  exact ⟨by rw [HF.out]; rfl, HB.out⟩
 have HK := aRA hvk
 have h4 : nv = 4 := HV.out.1.symm.trans (gR hvk (d := 0) (by omega)).2.2
 subst h4
 have HAt := aRA (fun d (hd : d < 4) => gR hvk hd)
 have HCE := aRA (aBf (l := l) hvk)
 have HCD : Hid (∀ d, d < 4 → kM xs l d = false → aE xs l = false) := fun d hd h => aEJ hd h
 clear hvk
 go_enter Tryz.func36, Tryz.ntmps36
 go_wp2_with fail
 generalize w.alloc (.cells #[.slice av 4 cv, .slice ao no co] 27) = w0 at HV HO HB HX dK ⊢
 refine (sC _ B av 4 cv xs HV.out hv).mono ?_
 rintro e w1 ⟨rfl, rfl⟩
 rw [HK.out]
 go_wp2
 go_loopw [3, 4] (fun t i wr => ∃ (d at' : Nat), d ≤ 4 ∧ i = .int .i64 d ∧ t = .int .i64 at' ∧ at' ≤ no ∧ Hid (at' = aR xs d ∧ ∀ d', d' < d → kM xs l d' = true) ∧ Hid (Below w0.heap.size w0 wr)) (fun _ i _ => 4 - (intOf i).toNat)
 case atStart => exact ⟨0, 0, by omega, rfl, rfl, Nat.zero_le _, ⟨rfl, fun d' hd' => by omega⟩, Below.refl _ _⟩
 case round =>
  obtain ⟨d, st, hd, rfl, rfl, gC, HR, cR⟩ := hrel; obtain ⟨c0, c1⟩ := pair_cells ((cR.out.block _ (by omega)).trans HX.out)
  by_cases aK : d < 4
  rotate_left
  ·obtain rfl : d = 4 := by omega
   have HF := aRA (HCE.out HR.out.2)
   by_cases hz : st = no
   ·have hzb : ((st : Int) == (no : Int)) = true := by rw [hz]; exact beq_self_eq_true _
    have HT : Hid (decide (aR xs 4 = l.length) = true) := decide_eq_true (by rw [← HR.out.1, HL.out]; exact hz)
    clear hz; go_wp2
    go_ret
    exact ⟨by rw [HF.out, HT.out]; first | rfl | (simp [*]), HB.out.trans (cR.out.mono HB.out.size)⟩
   ·have hzb : ((st : Int) == (no : Int)) = false := by rw [beq_eq_false_iff_ne]; omega
    have HT : Hid (decide (aR xs 4 = l.length) = false) := decide_eq_false (by rw [← HR.out.1, HL.out]; exact hz)
    clear hz; go_wp2
    go_ret
    exact ⟨by rw [HF.out, HT.out]; first | rfl | (simp [*]), HB.out.trans (cR.out.mono HB.out.size)⟩
  obtain ⟨bv, ov, rfl, hbv, bI⟩ := HV.out.2 d aK; obtain ⟨g1, g2, g3⟩ := HAt.out d aK; obtain ⟨c, hcx⟩ := Int.eq_ofNat_of_zero_le g1; have cZ : Hid (aR xs (d + 1) = st + c) := by show aR xs (d + 1) = _; rw [aR, hcx, ← HR.out.1]; rfl
  have HDv : Hid (kM xs l d = (decide (aR xs (d + 1) ≤ l.length) && oD l d st c)) := by show kM xs l d = _; unfold kM; rw [hcx, ← HR.out.1]; rfl
  rw [hcx] at bI g2; clear hcx g1 g3 c0 c1; have aRo : c ≤ 40 := by omega
  clear g2; have HCV := aRA bI; have hd4 : decide ((d : Int) < 4) = true := decide_eq_true (by omega)
  clear bI; go_wp2
  go_loopw [3, 5, 6] (fun t s q wi => ∃ (i m : Nat), i ≤ c ∧ q = .int .i64 ((i : Int) + 1) ∧ t = .int .i64 (m : Int) ∧ s = .int .i64 (eE l st i) ∧ m ≤ no ∧ Hid (m = st + i) ∧ Hid (oD l d st i = true) ∧ Hid (Below w0.heap.size w0 wi)) (fun _ _ q _ => c + 1 - (intOf q).toNat)
  case atStart => exact ⟨0, st, Nat.zero_le _, rfl, rfl, rfl, gC, rfl, rfl, cR⟩
  case round =>
   obtain ⟨i, m, hi, rfl, rfl, rfl, hin, HMi, aNX, HBi⟩ := hrel; obtain ⟨c0, c1⟩ := pair_cells ((HBi.out.block _ (by omega)).trans HX.out)
   have cv := (HBi.out.cell (p := ⟨bv, ov + d, none⟩) (by show bv < w0.heap.size; omega)).trans HCV.out
   by_cases hic : i < c
   rotate_left
   ·obtain rfl : i = c := by omega
    have N5 : ¬ ((i : Int) + 1 ≤ (i : Int)) := by omega
    have HDt : Hid (∀ d', d' < d + 1 → kM xs l d' = true) := fun d' hd' => by
     rcases Nat.lt_or_ge d' d with h1 | h1
     ·exact HR.out.2 d' h1
     ·obtain rfl : d' = d := by omega
      rw [HDv.out, aNX.out, decide_eq_true (by rw [cZ.out, HL.out]; have := HMi.out; omega)]
      rfl
    go_wp2
    exact ⟨⟨d + 1, m, by omega, by go_num, rfl, hin, ⟨(by rw [cZ.out]; exact HMi.out), HDt.out⟩, HBi⟩, by simp [intOf]; omega⟩
   have N5 : ((i : Int) + 1 ≤ (c : Int)) := by omega
   by_cases hmn : m = no
   ·have aI : ((m : Int) == (no : Int)) = true := by rw [hmn]; exact beq_self_eq_true _
    have HF := aRA (HCD.out d aK (by rw [HDv.out, decide_eq_false (by rw [cZ.out, HL.out]; have := HMi.out; omega)]; rfl))
    clear hmn; go_wp2
    go_ret
    exact ⟨by rw [HF.out]; rfl, HB.out.trans (HBi.out.mono HB.out.size)⟩
   have aI : ((m : Int) == (no : Int)) = false := by rw [beq_eq_false_iff_ne]; omega
   have aNi : m < no := by omega
   have hmi : (m : Int) < (no : Int) := by omega
   have yE : (0 : Int) ≤ (m : Int) := by omega
   clear hmn; obtain ⟨b, off, rfl, hb, ho⟩ := HO.out.2 m aNi; have dL := aRA ho; have tM := aRA (HM.out m aNi); have HA : Hid (l.getD m aA.zero = aC l (st + i)) := by show _ = _; rw [HMi.out]; rfl
   have HA2 : Hid (aC l m = aC l (st + i)) := by show _ = _; rw [HMi.out]
   rw [HA.out] at dL; rw [HA2.out] at tM; clear ho HA HA2; have HPs := aRA (zX l st i); have HY := aRA (@vQ l d st i); have HZ : Hid (∀ b, mD l d st i = b → b = false → aE xs l = false) := fun b hb Y7 => HCD.out d aK (by rw [HDv.out, H6 hic (hb.trans Y7), Bool.and_false])
   have H1 := aRA (fun h => HZ.out _ (@aIA l d st i h) rfl)
   have H2 := aRA (fun h => HZ.out _ (@aFZ l d st i h) rfl)
   have H3 := aRA (fun h => HZ.out _ (@aFY l d st i h) rfl)
   have H4 := aRA (fun h => HZ.out _ (@aDf l d st i h) rfl)
   have HN := aRA (fun h => aDS (dev := d) aNX.out h)
   clear HZ; generalize aC l (st + i) = x at HPs HY H1 H2 H3 H4 dL tM; generalize eE l st i = ps at HY H4 ⊢; obtain ⟨d0, d1, d2, d3, d4, d5, d6, d7⟩ := dL.out.kept (HBi.out.block b (by omega))
   go_wp2_with fail
   refine (aAY x.dev x.seq x.stamp x.kind x.item x.qty x.level x.undos _ tM.out).mono ?_
   rintro e w2 ⟨rfl, aN⟩; have bK := aRA (HBi.out.trans (aN.mono HBi.out.size)); clear aN c0 c1 cv d0 d1 d2 d3 d4 d5 d6 d7; obtain ⟨c0, c1⟩ := pair_cells ((bK.out.block _ (by omega)).trans HX.out)
   obtain ⟨d0, d1, d2, d3, d4, d5, d6, d7⟩ := dL.out.kept (bK.out.block b (by omega))
   rcases hok : dP x.dev x.seq x.stamp x.kind x.item x.qty x.level x.undos with _ | _
   ·have HF := aRA (H1.out hok)
    clear hok; go_wp2
    go_ret
    exact ⟨by rw [HF.out]; rfl, HB.out.trans (bK.out.mono HB.out.size)⟩
   by_cases e1 : x.dev = (d : Int)
   rotate_left
   ·have HF := aRA (H2.out e1)
    have b1 : (x.dev != (d : Int)) = true := by rw [bne_iff_ne]; exact e1
    clear hok e1; go_wp2
    go_ret
    exact ⟨by rw [HF.out]; rfl, HB.out.trans (bK.out.mono HB.out.size)⟩
   have b1 : (x.dev != (d : Int)) = false := by rw [e1]; exact bne_self_eq_false _
   by_cases e2 : x.seq = (i : Int) + 1
   rotate_left
   ·have HF := aRA (H3.out e2)
    have b2 : (x.seq != (i : Int) + 1) = true := by rw [bne_iff_ne]; exact e2
    clear hok e1 e2; go_wp2
    go_ret
    exact ⟨by rw [HF.out]; rfl, HB.out.trans (bK.out.mono HB.out.size)⟩
   have b2 : (x.seq != (i : Int) + 1) = false := by rw [e2]; exact bne_self_eq_false _
   by_cases e3 : ps < x.stamp
   rotate_left
   ·have HF := aRA (H4.out (by first | exact e3 | exact Int.not_lt.1 e3))
    have b3 : decide (x.stamp ≤ ps) = true := decide_eq_true (by omega)
    clear hok e1 e2 e3; go_wp2
    go_ret
    exact ⟨by rw [HF.out]; rfl, HB.out.trans (bK.out.mono HB.out.size)⟩
   have b3 : decide (x.stamp ≤ ps) = false := decide_eq_false (by omega)
   have HF := aRA (HN.out (HY.out hok e1 e2 e3)); clear hok e1 e2 e3; go_wp2
   go_roundw
   case rel => exact ⟨i + 1, m + 1, by omega, by go_num, by go_num, by rw [HPs.out], by omega, (by have := HMi.out; show m + 1 = st + (i + 1); omega), HF, bK⟩
   case measure => simp [intOf]; omega
def aBh (a b : aA) : Bool := V8 a.dev a.seq a.stamp a.kind a.item a.qty a.level a.undos b.dev b.seq b.stamp b.kind b.item b.qty b.level b.undos
def pB (a b : aA) : Bool := preB a.stamp a.dev a.seq b.stamp b.dev b.seq
def kH (a b : aA) : aA := if aBh b a = true then a else b
structure cW where
 level : Int
 counted : aA
 placed : aA
def cW.zero : cW := ⟨0, aA.zero, aA.zero⟩
def qV (kind : Int) : Bool := decide (kind = 1 ∨ kind = 2)
def iC (kind : Int) : Bool := decide (kind = 1 ∨ kind = 4 ∨ kind = 5)
def fW (s : cW) (o : aA) : cW := ⟨max s.level o.level, if qV o.kind = true then kH s.counted o else s.counted, if iC o.kind = true then kH s.placed o else s.placed⟩
def cC (item : ByteArray) (bR : List aA) : cW := bR.foldl (fun s o => if o.item = item then fW s o else s) cW.zero
theorem zE (item : ByteArray) (bR : List aA) (o : aA) : cC item (bR ++ [o]) = if o.item = item then fW (cC item bR) o else cC item bR := by
 unfold cC
 rw [List.foldl_append]
 rfl
theorem aDM (item : ByteArray) (bR : List aA) : 0 ≤ (cC item bR).level := by
 unfold cC
 have : ∀ (l : List aA) (s : cW), 0 ≤ s.level → 0 ≤ (l.foldl (fun s o => if o.item = item then fW s o else s) s).level := by
  intro l
  induction l with
  | nil => intro s h; exact h
  | cons o l ih =>
   intro s h
   rw [List.foldl_cons]; refine ih _ ?_
   split
   ·show 0 ≤ max _ _; omega
   ·exact h
 exact this bR cW.zero (Int.le_refl _)
/-- The model's level after the first k operations. -/
def aG (item : ByteArray) (l : List aA) : Nat → Int
 | 0 => 0
 | k + 1 => if (l.getD k aA.zero).item = item ∧ (l.getD k aA.zero).undos % 2 = 0 then max (aG item l k) (l.getD k aA.zero).level else aG item l k
/-- The model's last operation of some kinds after the first k. -/
def aU (P : Int → Bool) (item : ByteArray) (l : List aA) : Nat → aA
 | 0 => aA.zero
 | k + 1 => if (P (l.getD k aA.zero).kind = true ∧ (l.getD k aA.zero).item = item ∧ (l.getD k aA.zero).undos % 2 = 0) ∧ ((aU P item l k).kind = 0 ∨ pB (aU P item l k) (l.getD k aA.zero) = true) then l.getD k aA.zero else aU P item l k
theorem Q5 (P : Int → Bool) (item : ByteArray) (l : List aA) : ∀ k, aU P item l k = aA.zero ∨ ∃ i, i < k ∧ aU P item l k = aC l i
 | 0 => .inl rfl
 | k + 1 => by
  rw [aU]
  split
  ·exact .inr ⟨k, by omega, rfl⟩
  ·rcases Q5 P item l k with h | ⟨i, hi, h⟩
   ·exact .inl h
   ·exact .inr ⟨i, by omega, h⟩
theorem aFJ {o : aA} (h : o.ok = true) : 1 ≤ o.kind ∧ o.kind ≤ 5 := by
 unfold aA.ok dP E6 at h
 simp only [Bool.and_eq_true] at h
 have := gM.1 h.2.1
 exact this
theorem aIW : aA.zero.ok = false := by
 rcases h : aA.zero.ok with _ | _
 ·rfl
 ·have := aFJ h
  have e : aA.zero.kind = 0 := rfl; omega
theorem aNH {a b : aA} (ha : a.ok = true) (hb : b.ok = true) : aBh a b = pB a b := by
 unfold aBh V8
 unfold aA.ok at ha hb
 rw [ha, hb]
 rfl
theorem aMj {a b : aA} (hb : b.ok = false) : aBh a b = false := by
 unfold aBh V8
 unfold aA.ok at hb
 rw [hb]
 simp
/-- Of two operations that are not one place, one precedes the other, and not both. -/
theorem aI8 {a b : aA} (h : a.dev ≠ b.dev ∨ a.seq ≠ b.seq) : pB a b = !pB b a := by
 unfold pB preB
 rcases Int.lt_trichotomy a.stamp b.stamp with h1 | h1 | h1 <;> rcases Int.lt_trichotomy a.dev b.dev with h2 | h2 | h2 <;> rcases Int.lt_trichotomy a.seq b.seq with h3 | h3 | h3 <;> (rw [Bool.eq_iff_iff]; simp; omega)
theorem aBA {xs : List Int} {l : List aA} (hc : aE xs l = true) (P : Int → Bool) (item : ByteArray) {k : Nat} (hk : k < l.length) :
  kH (aU P item l k) (l.getD k aA.zero) = if (aU P item l k).kind = 0 ∨ pB (aU P item l k) (l.getD k aA.zero) = true then l.getD k aA.zero else aU P item l k := by
 obtain ⟨_, _, _, _, _, hok, _, _⟩ := gX hc hk
 unfold kH
 rcases Q5 P item l k with h | ⟨i, hi, h⟩
 ·rw [h, aMj aIW, if_neg (by simp), if_pos (.inl rfl)]
 ·obtain ⟨_, _, _, _, _, aNf, _, _⟩ := gX hc (i := i) (by omega)
  rw [h]; have hn : (aC l i).kind ≠ 0 := by have := aFJ aNf; omega
  have bH : (aC l i).dev ≠ (l.getD k aA.zero).dev ∨ (aC l i).seq ≠ (l.getD k aA.zero).seq := by
   rcases Classical.em ((aC l i).dev = (l.getD k aA.zero).dev) with h1 | h1
   ·right; intro h2
    have := aKd hc (i := i) (j := k) (by omega) hk h1 h2
    omega
   ·exact .inl h1
  have hb : aBh (l.getD k aA.zero) (aC l i) = pB (l.getD k aA.zero) (aC l i) := aNH hok aNf; rw [hb, aI8 bH]; cases pB (l.getD k aA.zero) (aC l i)
  ·rw [if_neg (by simp), if_pos (.inr rfl)]
  ·rw [if_pos rfl, if_neg (by simp [hn])]
theorem yN {xs : List Int} {l : List aA} (hc : aE xs l = true) (item : ByteArray) : ∀ k, k ≤ l.length → cC item (jC l k) = ⟨aG item l k, aU qV item l k, aU iC item l k⟩
 | 0, _ => rfl
 | k + 1, hk => by
  have pJ : k < l.length := hk; have ih := yN hc item k (by omega)
  obtain ⟨_, _, _, _, _, hok, _, _⟩ := gX hc pJ; have hl := aCs hok; have e : aC l k = l.getD k aA.zero := rfl; rw [e] at hl
  by_cases hu : (l.getD k aA.zero).undos % 2 = 0
  ·rw [U3 pJ (by rw [hl, decide_eq_true hu]), zE]
   by_cases hi : (l.getD k aA.zero).item = item
   ·rw [if_pos hi, ih, aG, if_pos ⟨hi, hu⟩, aU, aU]
    unfold fW; simp only []
    congr 1
    ·cases hP : qV (l.getD k aA.zero).kind
     ·rw [if_neg (by simp), if_neg (by simp)]
     ·rw [if_pos rfl, aBA hc qV item pJ]
      simp only [hi, hu, true_and, and_self]
    ·cases hP : iC (l.getD k aA.zero).kind
     ·rw [if_neg (by simp), if_neg (by simp)]
     ·rw [if_pos rfl, aBA hc iC item pJ]
      simp only [hi, hu, true_and, and_self]
   ·rw [if_neg hi, ih, aG, if_neg (fun h => hi h.1), aU, if_neg (fun h => hi h.1.2.1), aU, if_neg (fun h => hi h.1.2.1)]
  ·rw [m8 pJ (by rw [hl, decide_eq_false hu]), ih, aG, if_neg (fun h => hu h.2), aU, if_neg (fun h => hu h.1.2.2), aU, if_neg (fun h => hu h.1.2.2)]
theorem dZ {o : aA} (h : o.ok = true) : 1 ≤ o.seq ∧ o.seq ≤ 40 ∧ 1 ≤ o.stamp ∧ o.stamp ≤ 100000 ∧ o.item.size ≤ 8 ∧ 0 ≤ o.undos ∧ o.undos ≤ 50 ∧ 0 ≤ o.level ∧ o.level ≤ 100 := by
 have h' : dP o.dev o.seq o.stamp o.kind o.item o.qty o.level o.undos = true := h
 unfold dP tE E6 at h'
 simp only [Bool.and_eq_true] at h'
 obtain ⟨⟨_, hs, ht, hi, hu⟩, _, _, hl⟩ := h'
 unfold dD at hs ht hu
 have hs := of_decide_eq_true hs
 have ht := of_decide_eq_true ht
 have hu := of_decide_eq_true hu
 unfold iE at hi
 rw [Bool.and_eq_true] at hi
 have hi := of_decide_eq_true hi.1
 have hlv : 0 ≤ o.level ∧ o.level ≤ 100 := by
  unfold lB at hl
  split at hl
  ·rw [Bool.and_eq_true] at hl
   have := of_decide_eq_true (show decide (1 ≤ o.level ∧ o.level ≤ 100) = true from hl.1); omega
  ·split at hl
   ·rw [Bool.and_eq_true] at hl
    have := of_decide_eq_true (show decide (2 ≤ o.level ∧ o.level ≤ 100) = true from hl.1); omega
   ·have := of_decide_eq_true hl
    omega
 exact ⟨hs.1, hs.2, ht.1, ht.2, hi.2, hu.1, hu.2, hlv.1, hlv.2⟩
theorem fA {xs : List Int} {l : List aA} (h : aE xs l = true) {i : Nat} (hi : i < l.length) : (aC l i).ok = true := by
 obtain ⟨_, _, _, _, _, hok, _⟩ := gX h hi
 exact hok
theorem fJ {xs : List Int} {l : List aA} (h : aE xs l = true) : xs.length = 4 ∧ ∀ d, d < 4 → 0 ≤ xs.getD d 0 ∧ xs.getD d 0 ≤ 40 := by
 have hv : cU xs = true := by
  cases e : cU xs
  ·rw [aBd e] at h; cases h
  ·rfl
 unfold cU at hv
 rw [Bool.and_eq_true] at hv
 have hl := of_decide_eq_true hv.2
 refine ⟨hl, fun d hd => ?_⟩
 have hm : xs.getD d 0 ∈ xs := by rw [List.getD_eq_getElem?_getD, List.getElem?_eq_getElem (by omega)]; exact List.getElem_mem _
 have := List.all_eq_true.1 hv.1 _ hm
 exact U8 this
theorem eU {xs : List Int} {l : List aA} (h : aE xs l = true) : l.length ≤ 160 := by
 have hv := (fJ h).2
 unfold aE at h
 rw [Bool.and_eq_true, Bool.and_eq_true] at h
 have hs := of_decide_eq_true h.2.2
 have h0 := hv 0 (by omega)
 have h1 := hv 1 (by omega)
 have h2 := hv 2 (by omega)
 have h3 := hv 3 (by omega)
 have : aR xs 4 = (((0 + (xs.getD 0 0).toNat) + (xs.getD 1 0).toNat) + (xs.getD 2 0).toNat) + (xs.getD 3 0).toNat := rfl
 omega
theorem F6 {xs : List Int} {l : List aA} (h : aE xs l = true) (item : ByteArray) : ∀ k, k ≤ l.length → aG item l k ≤ 100
 | 0, _ => by show (0 : Int) ≤ 100; omega
 | k + 1, hk => by
  have ih := F6 h item k (by omega)
  have hb := dZ (fA h (i := k) (by omega))
  have e : l.getD k aA.zero = aC l k := rfl; rw [aG, e]
  split
  ·omega
  ·exact ih
end Go.Proofs.YthkagbnpcjidfaaGreatDoor
