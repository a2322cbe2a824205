/- Walks and mathematics that several claims share, part 9. -/
import Derived.Test.YthkagbnpcjidfaaGreatDoorGu6
import Derived.Test.YthkagbnpcjidfaaGreatDoorGu8
import Derived.Deep.Cut
import Derived.Deep.RegionHeld3
namespace Go.Proofs.YthkagbnpcjidfaaGreatDoor
set_option maxRecDepth 100000
open Go.RowKit
set_option linter.unusedVariables false
set_option linter.unusedSimpArgs false
def aO (xs : List Int) : Nat → Nat
 | 0 => 0
 | d + 1 => aO xs d + (xs.getD d 0).toNat
def iQ (xs : List Int) (l : List aA) (d : Nat) : Bool := decide (aO xs (d + 1) ≤ l.length) && lP l d (aO xs d) (xs.getD d 0).toNat
def aE (xs : List Int) (l : List aA) : Bool := cJ xs && ((List.range 4).all (iQ xs l) && decide (aO xs 4 = l.length))
theorem q6 {xs : List Int} {l : List aA} (h : cJ xs = false) : aE xs l = false := by unfold aE; rw [h]; rfl
theorem aDj {xs : List Int} {l : List aA} {d : Nat} (hd : d < 4) (h : iQ xs l d = false) : aE xs l = false := by
 have e : (List.range 4).all (iQ xs l) = false := by
  rw [List.all_eq_false]; exact ⟨d, by simpa using hd, by simp [h]⟩
 unfold aE
 rw [e]
 simp
theorem q8 {xs : List Int} {l : List aA} (h : cJ xs = true) (hd : ∀ d, d < 4 → iQ xs l d = true) : aE xs l = decide (aO xs 4 = l.length) := by
 have e : (List.range 4).all (iQ xs l) = true := by
  rw [List.all_eq_true]
  intro d hm
  exact hd d (by simpa using hm)
 unfold aE
 rw [h, e]
 rfl
theorem fU {xs : List Int} (h : cJ xs = true) {d : Nat} (hd : d < 4) : 0 ≤ xs.getD d 0 ∧ xs.getD d 0 ≤ 40 ∧ xs.length = 4 := by
 unfold cJ at h
 simp only [Bool.and_eq_true, decide_eq_true_eq, List.all_eq_true] at h
 obtain ⟨h1, h2⟩ := h
 have hm : xs.getD d 0 ∈ xs := by
  rw [List.getD_eq_getElem?_getD, List.getElem?_eq_getElem (by omega)]
  exact List.getElem_mem _
 have := J5 (h1 _ hm)
 exact ⟨this.1, this.2, h2⟩
theorem aHq {l : List aA} {st c i : Nat} (hi : i < c) : aC ((l.drop st).take c) i = aC l (st + i) := by
 unfold aC
 rw [List.getD_eq_getElem?_getD, List.getElem?_take_of_lt hi, List.getElem?_drop, List.getD_eq_getElem?_getD]
theorem aJT {l : List aA} {dev st c : Nat} : lP ((l.drop st).take c) dev 0 c = lP l dev st c := by
 unfold lP
 rw [Bool.eq_iff_iff, List.all_eq_true, List.all_eq_true]
 have key : ∀ i, i < c → kD ((l.drop st).take c) dev 0 i = kD l dev st i := fun i hi => by
  have e1 : aC ((l.drop st).take c) (0 + i) = aC l (st + i) := by rw [Nat.zero_add]; exact aHq hi
  have e2 : dO ((l.drop st).take c) 0 i = dO l st i := by
   unfold dO
   split
   ·rfl
   ·have e : 0 + i - 1 = i - 1 := by omega
    have e' : st + i - 1 = st + (i - 1) := by omega
    rw [e, e', aHq (by omega)]
  unfold kD; rw [e1, e2]
 constructor
 ·intro h i hi
  rw [← key i (by simpa using hi)]
  exact h i hi
 ·intro h i hi
  rw [key i (by simpa using hi)]
  exact h i hi
theorem bP.take {w : World} {B : Nat} {a : Option Addr} {n : Nat} {l : List aA} (h : bP w B a n l) {c : Nat} (hc : c ≤ n) : bP w B a c (l.take c) :=
 ⟨by rw [List.length_take, h.1]; omega, fun i hi => by
  obtain ⟨b, off, e, hb, ho⟩ := h.2 i (by omega)
  have e2 : (l.take c).getD i aA.zero = l.getD i aA.zero := by rw [List.getD_eq_getElem?_getD, List.getElem?_take_of_lt hi, List.getD_eq_getElem?_getD]
  exact ⟨b, off, e, hb, by rw [e2]; exact ho⟩⟩
theorem bP.dropMap {w : World} {B : Nat} {a : Option Addr} {n : Nat} {l : List aA} (h : bP w B a n l) {c : Nat} (hc : c ≤ n) : bP w B (Option.map (fun x => x.add (c * 8)) a) (n - c) (l.drop c) :=
 ⟨by rw [List.length_drop, h.1], fun i hi => by
  obtain ⟨b, off, e, hb, ho⟩ := h.2 (c + i) (by omega)
  subst e; have e3 : (l.drop c).getD i aA.zero = l.getD (c + i) aA.zero := by rw [List.getD_eq_getElem?_getD, List.getElem?_drop, List.getD_eq_getElem?_getD]
  exact ⟨b, off + c * 8, by rw [Option.map_some, tD], hb, by rw [e3, show off + c * 8 + i * 8 = off + (c + i) * 8 by omega]; exact ho⟩⟩
theorem aBG {w : World} {B : Nat} {a : Option Addr} {l : List aA} (h : l.length = 0) : bP w B a 0 l := ⟨h, fun i hi => by omega⟩
set_option maxHeartbeats 20000000 in
theorem iZ (w : World) (B : Nat) (av ao : Option Addr) (nv cv no co : Nat) (xs : List Int) (l : List aA) (hx : Ints w B av nv xs) (h : bP w B ao no l) (hB : B ≤ w.heap.size) (hv : nv ≤ 1048576) (hc : no ≤ co) (dP : Fits no co) :
  Calls Tryz.prog 23 #[.agg #[.slice av nv cv, .slice ao no co]] w fun e w' => e = .returned (.bool (aE xs l)) ∧ Below w.heap.size w w' := by
 have yO : no ≤ 1048576 := dP.1
 have bD : Below w.heap.size w (w.alloc (.cells #[.slice av nv cv, .slice ao no co] 27)) := (Below.refl _ w).alloc aPq _
 have HV := aPo (hx.below bD hB)
 have HO := aPo (h.below bD hB)
 have HB := aPo bD
 have HX := aPo (bX (Below.refl _ (w.alloc (.cells #[.slice av nv cv, .slice ao no co] 27))))
 have HL := aPo h.1
 have dC : w.heap.size < (w.alloc (.cells #[.slice av nv cv, .slice ao no co] 27)).heap.size := by show _ < (w.heap.push _).size; simp
 clear hx h bD
 rcases hvk : cJ xs with _ | _
 ·have HF := aPo (q6 (l := l) hvk)
  have HK := aPo hvk; clear hvk
  go_enter Tryz.func23, Tryz.ntmps23
  go_wp2_with fail
  refine (aBR _ B av nv cv xs HV.out hv).mono ?_
  rintro e w1 ⟨rfl, rfl⟩; rw [HK.out]; go_wp2
  go_ret
  exact ⟨by rw [HF.out]; rfl, HB.out⟩
 have HK := aPo hvk
 have h4 : nv = 4 := HV.out.1.symm.trans (fU hvk (d := 0) (by omega)).2.2
 subst h4
 have HAt := aPo (fun d (hd : d < 4) => fU hvk hd)
 have HCE := aPo (q8 (l := l) hvk)
 have HCD : Hid (∀ d, d < 4 → iQ xs l d = false → aE xs l = false) := fun d hd h => aDj hd h
 clear hvk
 go_enter Tryz.func23, Tryz.ntmps23
 go_wp2_with fail
 generalize w.alloc (.cells #[.slice av 4 cv, .slice ao no co] 27) = w0 at HV HO HB HX dC ⊢
 refine (aBR _ B av 4 cv xs HV.out hv).mono ?_
 rintro e w1 ⟨rfl, rfl⟩
 rw [HK.out]
 obtain ⟨c0, c1⟩ := pair_cells HX.out
 go_wp2
 go_loopw [3, 15] (fun r i wr => ∃ (d rn rc : Nat) (ra : Option Addr), d ≤ 4 ∧ i = .int .i64 d ∧ r = .slice ra rn rc ∧ rn ≤ rc ∧ Hid (D4 rc) ∧ Hid (bP w0 B ra rn (l.drop (aO xs d)) ∧ aO xs d + rn = l.length ∧ ∀ d', d' < d → iQ xs l d' = true) ∧ Hid (Below w0.heap.size w0 wr)) (fun _ i _ => 4 - (intOf i).toNat)
 case atStart => exact ⟨0, no, co, ao, by omega, rfl, rfl, hc, dP.2, ⟨HO.out, (by rw [HL.out]; simp [aO]), fun d' hd' => by omega⟩, Below.refl _ _⟩
 case round =>
  obtain ⟨d, rn, rc, ra, hd, rfl, rfl, N0, aNy, HR, cW⟩ := hrel
  by_cases aJ : d < 4
  rotate_left
  ·obtain rfl : d = 4 := by omega
   have HF := aPo (HCE.out HR.out.2.2); have HS := aPo HR.out.2.1
   by_cases hz : rn = 0
   ·subst hz
    have HT : Hid (decide (aO xs 4 = l.length) = true) := decide_eq_true (by have := HS.out; omega)
    go_wp2
    go_ret
    exact ⟨by rw [HF.out, HT.out]; rfl, HB.out.trans (cW.out.mono HB.out.size)⟩
   ·have hzb : ((rn : Int) == 0) = false := by rw [beq_eq_false_iff_ne]; omega
    have HT : Hid (decide (aO xs 4 = l.length) = false) := decide_eq_false (by have := HS.out; omega)
    go_wp2
    go_ret
    exact ⟨by rw [HF.out, HT.out]; rfl, HB.out.trans (cW.out.mono HB.out.size)⟩
  obtain ⟨bv, ov, rfl, hbv, bW⟩ := HV.out.2 d aJ; have aNZ := (cW.out.cell (p := ⟨bv, ov + d, none⟩) (by show bv < w0.heap.size; omega)).trans bW
  obtain ⟨g1, g2, g3⟩ := HAt.out d aJ; obtain ⟨c, hcx⟩ := Int.eq_ofNat_of_zero_le g1; have cM : Hid (aO xs (d + 1) = aO xs d + c) := by show aO xs (d + 1) = _; rw [aO, hcx]; rfl
  have HDv : Hid (iQ xs l d = (decide (aO xs (d + 1) ≤ l.length) && lP l d (aO xs d) c)) := by show iQ xs l d = _; unfold iQ; rw [hcx]; rfl
  rw [hcx] at aNZ g2; clear bW hcx g1 g3
  by_cases kE : c ≤ rn
  rotate_left
  ·have HF := aPo (HCD.out d aJ (by rw [HDv.out, decide_eq_false (by have := cM.out; have := HR.out.2.1; omega)]; rfl))
   have hgt : (rn : Int) < (c : Int) := by omega
   go_wp2
   go_ret
   exact ⟨by rw [HF.out]; rfl, HB.out.trans (cW.out.mono HB.out.size)⟩
  have hgt : ¬ (rn : Int) < (c : Int) := by omega
  have HOc := aPo ((HR.out.1.below cW.out (by omega)).take kE)
  go_wp2_with fail
  refine (aIJ wr B ra c rc d _ HOc.out (by have := cW.out.size; omega) (by omega)).mono ?_
  rintro e w2 ⟨rfl, aM⟩; rw [aJT]; have bT := aPo (cW.out.trans (aM.mono cW.out.size)); clear aM HOc; rcases hrun : lP l d (aO xs d) c with _ | _
  ·have HF := aPo (HCD.out d aJ (by rw [HDv.out, hrun, Bool.and_false]))
   clear hrun; go_wp2
   go_ret
   exact ⟨by rw [HF.out]; rfl, HB.out.trans (bT.out.mono HB.out.size)⟩
  have HDt : Hid (∀ d', d' < d + 1 → iQ xs l d' = true) := fun d' hd' => by
   rcases Nat.lt_or_ge d' d with h1 | h1
   ·exact HR.out.2.2 d' h1
   ·obtain rfl : d' = d := by omega
    rw [HDv.out, hrun, decide_eq_true (by have := cM.out; have := HR.out.2.1; omega)]
    rfl
  clear hrun HCD HDv cW; have HRl : Hid (aO xs (d + 1) + (rn - c) = l.length) := by have := cM.out; have := HR.out.2.1; show _ = _; omega
  have HLd : Hid (l.drop (aO xs (d + 1)) = (l.drop (aO xs d)).drop c) := by show _ = _; rw [cM.out, List.drop_drop]
  have HLl : Hid ((l.drop (aO xs (d + 1))).length = rn - c) := by show List.length _ = _; rw [List.length_drop]; have := HRl.out; omega
  have hci : (c : Int) ≤ (rn : Int) := by omega
  have aO9 : (c : Int) ≤ (rc : Int) := by omega
  have aON : (rn : Int) ≤ (rc : Int) := by omega
  by_cases nI : c = rc
  ·obtain rfl : rn = c := by omega
   have HO0 := aPo (fun a => aBG (w := w0) (B := B) (a := a) (show (l.drop (aO xs (d + 1))).length = 0 by rw [HLl.out]; omega))
   go_wp2
   exact ⟨⟨d + 1, 0, 0, ra, by omega, by go_num, rfl, Nat.le_refl _, Nat.zero_le _, ⟨HO0.out ra, (by have := HRl.out; omega), HDt.out⟩, bT⟩, by simp [intOf]; omega⟩
  ·have aPa : ¬ (rc : Int) = (c : Int) := by omega
   have HOd := aPo (HR.out.1.dropMap kE); rw [← HLd.out] at HOd; go_wp2
   exact ⟨⟨d + 1, rn - c, rc - c, _, by omega, by go_num, rfl, by omega, aNy.out.sub c, ⟨HOd.out, HRl.out, HDt.out⟩, bT⟩, by simp [intOf]; omega⟩
def aA.val (o : aA) : Value := .agg #[.int .i64 o.dev, .int .i64 o.seq, .int .i64 o.stamp, .int .i64 o.kind, .string o.item, .int .i64 o.qty, .int .i64 o.level, .int .i64 o.undos]
def aA.live (o : aA) : Bool := X5 o.dev o.seq o.stamp o.kind o.item o.qty o.level o.undos
def gV (l : List aA) (k : Nat) : List aA := (l.take k).filter aA.live
theorem take_at {l : List aA} {k : Nat} (h : k < l.length) : l.take (k + 1) = l.take k ++ [l.getD k aA.zero] := by
 rw [List.take_succ_eq_append_getElem h, List.getD_eq_getElem?_getD, List.getElem?_eq_getElem h]
 rfl
theorem I7 {l : List aA} {k : Nat} (hk : k < l.length) (h : (l.getD k aA.zero).live = true) : gV l (k + 1) = gV l k ++ [l.getD k aA.zero] := by
 unfold gV
 rw [take_at hk, List.filter_append, List.filter_cons, if_pos h, List.filter_nil]
theorem Q9 {l : List aA} {k : Nat} (hk : k < l.length) (h : (l.getD k aA.zero).live = false) : gV l (k + 1) = gV l k := by
 unfold gV
 rw [take_at hk, List.filter_append, List.filter_cons, if_neg (by rw [h]; exact Bool.false_ne_true), List.filter_nil, List.append_nil]
theorem aAm (l : List aA) (k : Nat) : (gV l k).length ≤ k := by
 unfold gV
 exact Nat.le_trans (List.length_filter_le _ _) (List.length_take_le _ _)
theorem pY {xs : List Int} {l : List aA} (h : aE xs l = true) : cJ xs = true ∧ (∀ d, d < 4 → iQ xs l d = true) ∧ aO xs 4 = l.length := by
 unfold aE at h
 simp only [Bool.and_eq_true, decide_eq_true_eq, List.all_eq_true] at h
 exact ⟨h.1, fun d hd => h.2.1 d (by simpa using hd), h.2.2⟩
theorem aEr {xs : List Int} {i : Nat} : ∀ d, i < aO xs d → ∃ e k, e < d ∧ k < (xs.getD e 0).toNat ∧ i = aO xs e + k
 | 0, h => by simp [aO] at h
 | d + 1, h => by
  rcases Nat.lt_or_ge i (aO xs d) with h1 | h1
  ·obtain ⟨e, k, he, hk, hi⟩ := aEr d h1
   exact ⟨e, k, by omega, hk, hi⟩
  ·rw [aO] at h
   exact ⟨d, i - aO xs d, by omega, by omega, by omega⟩
theorem gE {xs : List Int} {l : List aA} (h : aE xs l = true) {i : Nat} (hi : i < l.length) :
  ∃ d k, d < 4 ∧ k < (xs.getD d 0).toNat ∧ i = aO xs d + k ∧ (aC l i).ok = true ∧ (aC l i).dev = (d : Int) ∧ (aC l i).seq = (k : Int) + 1 := by
 obtain ⟨_, hd, hs⟩ := pY h
 obtain ⟨d, k, h1, h2, rfl⟩ := aEr (xs := xs) 4 (by rw [hs]; exact hi)
 have hb := hd d h1
 unfold iQ at hb
 simp only [Bool.and_eq_true, decide_eq_true_eq] at hb
 have hr := hb.2
 unfold lP at hr
 rw [List.all_eq_true] at hr
 have hf := hr k (by simpa using h2)
 unfold kD at hf
 simp only [Bool.and_eq_true, decide_eq_true_eq] at hf
 exact ⟨d, k, h1, h2, rfl, hf.1, hf.2.1, hf.2.2.1⟩
theorem aIS {xs : List Int} {l : List aA} (h : aE xs l = true) {i j : Nat} (hi : i < l.length) (hj : j < l.length) (hd : (aC l i).dev = (aC l j).dev) (hs : (aC l i).seq = (aC l j).seq) : i = j := by
 obtain ⟨d, k, _, _, rfl, _, h1, h2⟩ := gE h hi
 obtain ⟨e, m, _, _, rfl, _, g1, g2⟩ := gE h hj
 obtain rfl : d = e := by have := h1.symm.trans (hd.trans g1); omega
 have := h2.symm.trans (hs.trans g2)
 omega
theorem aBl {o : aA} (h : o.ok = true) : o.live = decide (o.undos % 2 = 0) := by
 unfold aA.live X5
 unfold aA.ok at h
 rw [h]
 rfl
def lastOf (dev : Int) (bJ : List aA) : Int := bJ.foldl (fun n o => if o.dev = dev then max n o.seq else n) 0
theorem Z0 (dev : Int) (bJ : List aA) (o : aA) : lastOf dev (bJ ++ [o]) = if o.dev = dev then max (lastOf dev bJ) o.seq else lastOf dev bJ := by
 unfold lastOf
 rw [List.foldl_append]
 rfl
theorem aHm {xs : List Int} {l : List aA} (h : aE xs l = true) {i j : Nat} (hij : i < j) (hj : j < l.length) (hd : (aC l i).dev = (aC l j).dev) : (aC l i).seq < (aC l j).seq := by
 obtain ⟨d, k, _, _, hi, _, h1, h2⟩ := gE h (i := i) (by omega)
 obtain ⟨e, m, _, _, hj', _, g1, g2⟩ := gE h hj
 obtain rfl : d = e := by have := h1.symm.trans (hd.trans g1); omega
 rw [h2, g2]
 omega
def dE (dev : Int) (l : List aA) : Nat → Int
 | 0 => 0
 | k + 1 => if (l.getD k aA.zero).dev = dev ∧ (l.getD k aA.zero).undos % 2 = 0 then (l.getD k aA.zero).seq else dE dev l k
theorem O9 (dev : Int) (l : List aA) : ∀ k, dE dev l k = 0 ∨ ∃ i, i < k ∧ (aC l i).dev = dev ∧ dE dev l k = (aC l i).seq
 | 0 => .inl rfl
 | k + 1 => by
  rw [dE]
  split
  ·rename_i h
   exact .inr ⟨k, by omega, h.1, rfl⟩
  ·rcases O9 dev l k with h | ⟨i, hi, h⟩
   ·exact .inl h
   ·exact .inr ⟨i, by omega, h⟩
theorem aBB {xs : List Int} {l : List aA} (hc : aE xs l = true) (dev : Int) : ∀ k, k ≤ l.length → lastOf dev (gV l k) = dE dev l k
 | 0, _ => rfl
 | k + 1, hk => by
  have qF : k < l.length := hk; have ih := aBB hc dev k (by omega)
  obtain ⟨d, m, _, _, _, hok, jI, hsq⟩ := gE hc qF; have hl := aBl hok; have e : aC l k = l.getD k aA.zero := rfl; rw [e] at hl jI hsq
  by_cases hu : (l.getD k aA.zero).undos % 2 = 0
  ·rw [I7 qF (by rw [hl, decide_eq_true hu]), Z0, ih, dE]
   by_cases hd : (l.getD k aA.zero).dev = dev
   ·rw [if_pos hd, if_pos ⟨hd, hu⟩]
    rcases O9 dev l k with h | ⟨i, hi, h1, h2⟩
    ·rw [h]; omega
    ·have := aHm hc hi qF (h1.trans hd.symm)
     rw [e] at this; rw [h2]; omega
   ·rw [if_neg hd, if_neg (fun h => hd h.1)]
  ·rw [Q9 qF (by rw [hl, decide_eq_false hu]), ih, dE, if_neg (fun h => hu h.2)]
theorem Y6 {xs : List Int} {l : List aA} (hc : aE xs l = true) {dev : Int} (hd : ¬ (0 ≤ dev ∧ dev ≤ 3)) : ∀ k, k ≤ l.length → dE dev l k = 0
 | 0, _ => rfl
 | k + 1, hk => by
  obtain ⟨d, m, h4, _, _, _, jI, _⟩ := gE hc (i := k) hk; have e : aC l k = l.getD k aA.zero := rfl; rw [e] at jI; rw [dE, if_neg (fun h => hd (by rw [← h.1, jI]; omega)), Y6 hc hd k (by omega)]
theorem aEp {xs : List Int} {l : List aA} (hc : aE xs l = true) (d : Nat) (k : Nat) (hk : k ≤ l.length) : 0 ≤ dE (d : Int) l k ∧ dE (d : Int) l k ≤ 40 := by
 rcases O9 (d : Int) l k with h | ⟨i, hi, h1, h2⟩
 ·rw [h]; omega
 ·obtain ⟨e, m, he, hm, _, _, jI, hsq⟩ := gE hc (i := i) (by omega)
  have := (fU (pY hc).1 he).2.1; rw [h2, hsq]; omega
theorem aHn {xs : List Int} {l : List aA} (hc : aE xs l = true) {d : Nat} (hd : d < 4) {n : Int} (hn : 1 ≤ n) : n ≤ xs.getD d 0 ↔ ∃ i, i < l.length ∧ (aC l i).dev = (d : Int) ∧ (aC l i).seq = n := by
 obtain ⟨hv, jI, hs⟩ := pY hc
 constructor
 ·intro h
  have hb := jI d hd; unfold iQ at hb; simp only [Bool.and_eq_true, decide_eq_true_eq] at hb
  have hx := fU hv hd; have hi : aO xs d + (n.toNat - 1) < l.length := by have := hb.1; rw [aO] at this; omega
  refine ⟨aO xs d + (n.toNat - 1), hi, ?_⟩
  have hr := hb.2; unfold lP at hr; rw [List.all_eq_true] at hr; have hf := hr (n.toNat - 1) (by rw [List.mem_range]; omega)
  unfold kD at hf; simp only [Bool.and_eq_true, decide_eq_true_eq] at hf
  exact ⟨hf.2.1, by rw [hf.2.2.1]; omega⟩
 ·rintro ⟨i, hi, h1, h2⟩
  obtain ⟨e, m, he, hm, _, _, g1, g2⟩ := gE hc hi; obtain rfl : e = d := by have := g1.symm.trans h1; omega
  rw [← h2, g2]; omega
def cZ (l : List aA) : Nat → Int
 | 0 => 0
 | k + 1 => max (cZ l k) (aC l k).stamp
theorem oN (l : List aA) : ∀ k, 0 ≤ cZ l k
 | 0 => Int.le_refl _
 | k + 1 => by have := oN l k; rw [cZ]; omega
theorem sH {l : List aA} {N : Int} (hN : 0 ≤ N) (h : ∀ i, i < l.length → (aC l i).stamp ≤ N) : ∀ k, k ≤ l.length → cZ l k ≤ N
 | 0, _ => hN
 | k + 1, hk => by
  have := sH hN h k (by omega)
  have := h k (by omega)
  rw [cZ]; omega
def putAt (dev : Int) (l : List aA) : Nat := (l.takeWhile fun x => decide (x.dev ≤ dev)).length
theorem rF (dev : Int) (l : List aA) : putAt dev l ≤ l.length := by unfold putAt; exact (List.takeWhile_sublist _).length_le
theorem l9 {dev : Int} : ∀ {l : List aA} {i : Nat}, i < putAt dev l → (aC l i).dev ≤ dev
 | [], i, h => absurd h (by simp [putAt])
 | x :: l, i, h => by
  by_cases hx : x.dev ≤ dev
  ·match i with
   | 0 => exact hx
   | j + 1 =>
    have : j < putAt dev l := by
     unfold putAt at h ⊢; rw [List.takeWhile_cons, if_pos (by simpa using hx), List.length_cons] at h
     omega
    have h2 : (aC l j).dev ≤ dev := l9 this; exact h2
  ·unfold putAt at h
   rw [List.takeWhile_cons, if_neg (by simpa using hx)] at h
   simp at h
theorem P8 {dev : Int} : ∀ {l : List aA}, putAt dev l < l.length → ¬ (aC l (putAt dev l)).dev ≤ dev
 | [], h => absurd h (by simp)
 | x :: l, h => by
  by_cases hx : x.dev ≤ dev
  ·have e : putAt dev (x :: l) = putAt dev l + 1 := by
    unfold putAt; rw [List.takeWhile_cons, if_pos (by simpa using hx), List.length_cons]
   rw [e] at h ⊢; have h2 : ¬ (aC l (putAt dev l)).dev ≤ dev := P8 (l := l) (by simpa using h)
   exact h2
  ·have e : putAt dev (x :: l) = 0 := by
    unfold putAt; rw [List.takeWhile_cons, if_neg (by simpa using hx)]
    rfl
   rw [e]; exact hx
def aQ (xs : List Int) (l : List aA) (d : Nat) (o : aA) : aA := { o with dev := (d : Int), seq := xs.getD d 0 + 1, stamp := cZ l l.length + 1 }
def eE (xs : List Int) (d : Nat) : List Int := xs.set d (xs.getD d 0 + 1)
def cI (l : List aA) (d : Nat) (o : aA) : List aA := l.take (putAt (d : Int) l) ++ [o] ++ l.drop (putAt (d : Int) l)
theorem uD (l : List aA) (d : Nat) (o : aA) : (cI l d o).length = l.length + 1 := by
 unfold cI
 have := rF (d : Int) l
 simp
 omega
def I5 (o : aA) : aA := { o with undos := o.undos + 1 }
def lO (l : List aA) (i : Nat) : List aA := l.set i (I5 (aC l i))
theorem rB (l : List aA) (i : Nat) : (lO l i).length = l.length := by unfold lO; simp
theorem jZ {α : Type} {l : List α} {i j : Nat} {x d : α} (hi : i < l.length) : (l.set i x).getD j d = if i = j then x else l.getD j d := by
 rw [List.getD_eq_getElem?_getD, List.getElem?_set]
 by_cases e : i = j
 ·rw [if_pos e, if_pos e, if_pos hi]; rfl
 ·rw [if_neg e, if_neg e, List.getD_eq_getElem?_getD]
set_option maxHeartbeats 20000000 in
theorem iW (w : World) (B : Nat) (av ao : Option Addr) (nv cv no co : Nat) (xs : List Int) (l : List aA) (hx : Ints w B av nv xs) (h : bP w B ao no l) (hB : B ≤ w.heap.size) (hv : nv ≤ 1048576) (hn : no ≤ 1048576) (hm : ∀ i, i < no → (aC l i).item.size ≤ 1048576) :
  Calls Tryz.prog 36 #[.agg #[.slice av nv cv, .slice ao no co]] w fun e w' => e = .returned (.bool (aE xs l)) ∧ Below w.heap.size w w' := by
 have bD : Below w.heap.size w (w.alloc (.cells #[.slice av nv cv, .slice ao no co] 27)) := (Below.refl _ w).alloc aPq _
 have HV := aPo (hx.below bD hB)
 have HO := aPo (h.below bD hB)
 have HB := aPo bD
 have HX := aPo (bX (Below.refl _ (w.alloc (.cells #[.slice av nv cv, .slice ao no co] 27))))
 have HL := aPo h.1
 have HM := aPo hm
 have dC : w.heap.size < (w.alloc (.cells #[.slice av nv cv, .slice ao no co] 27)).heap.size := by show _ < (w.heap.push _).size; simp
 clear hx h bD hm
 rcases hvk : cJ xs with _ | _
 ·have HF := aPo (q6 (l := l) hvk)
  have HK := aPo hvk; clear hvk
  go_enter Tryz.func36, Tryz.ntmps36
  go_wp2_with fail
  refine (pB _ B av nv cv xs HV.out hv).mono ?_
  rintro e w1 ⟨rfl, rfl⟩; rw [HK.out]; go_wp2
  go_ret
  exact ⟨by rw [HF.out]; rfl, HB.out⟩
 have HK := aPo hvk
 have h4 : nv = 4 := HV.out.1.symm.trans (fU hvk (d := 0) (by omega)).2.2
 subst h4
 have HAt := aPo (fun d (hd : d < 4) => fU hvk hd)
 have HCE := aPo (q8 (l := l) hvk)
 have HCD : Hid (∀ d, d < 4 → iQ xs l d = false → aE xs l = false) := fun d hd h => aDj hd h
 clear hvk
 go_enter Tryz.func36, Tryz.ntmps36
 go_wp2_with fail
 generalize w.alloc (.cells #[.slice av 4 cv, .slice ao no co] 27) = w0 at HV HO HB HX dC ⊢
 refine (pB _ B av 4 cv xs HV.out hv).mono ?_
 rintro e w1 ⟨rfl, rfl⟩
 rw [HK.out]
 go_wp2
 go_loopw [3, 4] (fun t i wr => ∃ (d at' : Nat), d ≤ 4 ∧ i = .int .i64 d ∧ t = .int .i64 at' ∧ at' ≤ no ∧ Hid (at' = aO xs d ∧ ∀ d', d' < d → iQ xs l d' = true) ∧ Hid (Below w0.heap.size w0 wr)) (fun _ i _ => 4 - (intOf i).toNat)
 case atStart => exact ⟨0, 0, by omega, rfl, rfl, Nat.zero_le _, ⟨rfl, fun d' hd' => by omega⟩, Below.refl _ _⟩
 case round =>
  obtain ⟨d, st, hd, rfl, rfl, dF, HR, cW⟩ := hrel; obtain ⟨c0, c1⟩ := pair_cells ((cW.out.block _ (by omega)).trans HX.out)
  by_cases aJ : d < 4
  rotate_left
  ·obtain rfl : d = 4 := by omega
   have HF := aPo (HCE.out HR.out.2)
   by_cases hz : st = no
   ·have hzb : ((st : Int) == (no : Int)) = true := by rw [hz]; exact beq_self_eq_true _
    have HT : Hid (decide (aO xs 4 = l.length) = true) := decide_eq_true (by rw [← HR.out.1, HL.out]; exact hz)
    clear hz; go_wp2
    go_ret
    exact ⟨by rw [HF.out, HT.out]; first | rfl | (simp [*]), HB.out.trans (cW.out.mono HB.out.size)⟩
   ·have hzb : ((st : Int) == (no : Int)) = false := by rw [beq_eq_false_iff_ne]; omega
    have HT : Hid (decide (aO xs 4 = l.length) = false) := decide_eq_false (by rw [← HR.out.1, HL.out]; exact hz)
    clear hz; go_wp2
    go_ret
    exact ⟨by rw [HF.out, HT.out]; first | rfl | (simp [*]), HB.out.trans (cW.out.mono HB.out.size)⟩
  obtain ⟨bv, ov, rfl, hbv, bW⟩ := HV.out.2 d aJ; obtain ⟨g1, g2, g3⟩ := HAt.out d aJ; obtain ⟨c, hcx⟩ := Int.eq_ofNat_of_zero_le g1; have cM : Hid (aO xs (d + 1) = st + c) := by show aO xs (d + 1) = _; rw [aO, hcx, ← HR.out.1]; rfl
  have HDv : Hid (iQ xs l d = (decide (aO xs (d + 1) ≤ l.length) && lP l d st c)) := by show iQ xs l d = _; unfold iQ; rw [hcx, ← HR.out.1]; rfl
  rw [hcx] at bW g2; clear hcx g1 g3 c0 c1; have aPc : c ≤ 40 := by omega
  clear g2; have HCV := aPo bW; have N4 : decide ((d : Int) < 4) = true := decide_eq_true (by omega)
  clear bW; go_wp2
  go_loopw [3, 5, 6] (fun t s q wi => ∃ (i m : Nat), i ≤ c ∧ q = .int .i64 ((i : Int) + 1) ∧ t = .int .i64 (m : Int) ∧ s = .int .i64 (dO l st i) ∧ m ≤ no ∧ Hid (m = st + i) ∧ Hid (lP l d st i = true) ∧ Hid (Below w0.heap.size w0 wi)) (fun _ _ q _ => c + 1 - (intOf q).toNat)
  case atStart => exact ⟨0, st, Nat.zero_le _, rfl, rfl, rfl, dF, rfl, rfl, cW⟩
  case round =>
   obtain ⟨i, m, hi, rfl, rfl, rfl, hin, HMi, aMa, HBi⟩ := hrel; obtain ⟨c0, c1⟩ := pair_cells ((HBi.out.block _ (by omega)).trans HX.out)
   have cv := (HBi.out.cell (p := ⟨bv, ov + d, none⟩) (by show bv < w0.heap.size; omega)).trans HCV.out
   by_cases hic : i < c
   rotate_left
   ·obtain rfl : i = c := by omega
    have N3 : ¬ ((i : Int) + 1 ≤ (i : Int)) := by omega
    have HDt : Hid (∀ d', d' < d + 1 → iQ xs l d' = true) := fun d' hd' => by
     rcases Nat.lt_or_ge d' d with h1 | h1
     ·exact HR.out.2 d' h1
     ·obtain rfl : d' = d := by omega
      rw [HDv.out, aMa.out, decide_eq_true (by rw [cM.out, HL.out]; have := HMi.out; omega)]
      rfl
    go_wp2
    exact ⟨⟨d + 1, m, by omega, by go_num, rfl, hin, ⟨(by rw [cM.out]; exact HMi.out), HDt.out⟩, HBi⟩, by simp [intOf]; omega⟩
   have N3 : ((i : Int) + 1 ≤ (c : Int)) := by omega
   by_cases hmn : m = no
   ·have aG : ((m : Int) == (no : Int)) = true := by rw [hmn]; exact beq_self_eq_true _
    have HF := aPo (HCD.out d aJ (by rw [HDv.out, decide_eq_false (by rw [cM.out, HL.out]; have := HMi.out; omega)]; rfl))
    clear hmn; go_wp2
    go_ret
    exact ⟨by rw [HF.out]; rfl, HB.out.trans (HBi.out.mono HB.out.size)⟩
   have aG : ((m : Int) == (no : Int)) = false := by rw [beq_eq_false_iff_ne]; omega
   have aLt : m < no := by omega
   have hmi : (m : Int) < (no : Int) := by omega
   have tR : (0 : Int) ≤ (m : Int) := by omega
   clear hmn; obtain ⟨b, off, rfl, hb, ho⟩ := HO.out.2 m aLt; have dD := aPo ho; have j2 := aPo (HM.out m aLt); have HA : Hid (l.getD m aA.zero = aC l (st + i)) := by show _ = _; rw [HMi.out]; rfl
   have HA2 : Hid (aC l m = aC l (st + i)) := by show _ = _; rw [HMi.out]
   rw [HA.out] at dD; rw [HA2.out] at j2; clear ho HA HA2; have HPs := aPo (vI l st i); have HY := aPo (@rY l d st i); have HZ : Hid (∀ b, kD l d st i = b → b = false → aE xs l = false) := fun b hb a8 => HCD.out d aJ (by rw [HDv.out, xZ hic (hb.trans a8), Bool.and_false])
   have H1 := aPo (fun h => HZ.out _ (@aG9 l d st i h) rfl)
   have H2 := aPo (fun h => HZ.out _ (@aEM l d st i h) rfl)
   have H3 := aPo (fun h => HZ.out _ (@aEL l d st i h) rfl)
   have H4 := aPo (fun h => HZ.out _ (@aBT l d st i h) rfl)
   have HN := aPo (fun h => aCr (dev := d) aMa.out h)
   clear HZ; generalize aC l (st + i) = x at HPs HY H1 H2 H3 H4 dD j2; generalize dO l st i = ps at HY H4 ⊢; obtain ⟨d0, d1, d2, d3, d4, d5, d6, d7⟩ := dD.out.kept (HBi.out.block b (by omega))
   go_wp2_with fail
   refine (l7 x.dev x.seq x.stamp x.kind x.item x.qty x.level x.undos _ j2.out).mono ?_
   rintro e w2 ⟨rfl, aM⟩; have bT := aPo (HBi.out.trans (aM.mono HBi.out.size)); clear aM c0 c1 cv d0 d1 d2 d3 d4 d5 d6 d7; obtain ⟨c0, c1⟩ := pair_cells ((bT.out.block _ (by omega)).trans HX.out)
   obtain ⟨d0, d1, d2, d3, d4, d5, d6, d7⟩ := dD.out.kept (bT.out.block b (by omega))
   rcases hok : dM x.dev x.seq x.stamp x.kind x.item x.qty x.level x.undos with _ | _
   ·have HF := aPo (H1.out hok)
    clear hok; go_wp2
    go_ret
    exact ⟨by rw [HF.out]; rfl, HB.out.trans (bT.out.mono HB.out.size)⟩
   by_cases e1 : x.dev = (d : Int)
   rotate_left
   ·have HF := aPo (H2.out e1)
    have b1 : (x.dev != (d : Int)) = true := by rw [bne_iff_ne]; exact e1
    clear hok e1; go_wp2
    go_ret
    exact ⟨by rw [HF.out]; rfl, HB.out.trans (bT.out.mono HB.out.size)⟩
   have b1 : (x.dev != (d : Int)) = false := by rw [e1]; exact bne_self_eq_false _
   by_cases e2 : x.seq = (i : Int) + 1
   rotate_left
   ·have HF := aPo (H3.out e2)
    have b2 : (x.seq != (i : Int) + 1) = true := by rw [bne_iff_ne]; exact e2
    clear hok e1 e2; go_wp2
    go_ret
    exact ⟨by rw [HF.out]; rfl, HB.out.trans (bT.out.mono HB.out.size)⟩
   have b2 : (x.seq != (i : Int) + 1) = false := by rw [e2]; exact bne_self_eq_false _
   by_cases e3 : ps < x.stamp
   rotate_left
   ·have HF := aPo (H4.out (by first | exact e3 | exact Int.not_lt.1 e3))
    have b3 : decide (x.stamp ≤ ps) = true := decide_eq_true (by omega)
    clear hok e1 e2 e3; go_wp2
    go_ret
    exact ⟨by rw [HF.out]; rfl, HB.out.trans (bT.out.mono HB.out.size)⟩
   have b3 : decide (x.stamp ≤ ps) = false := decide_eq_false (by omega)
   have HF := aPo (HN.out (HY.out hok e1 e2 e3)); clear hok e1 e2 e3; go_wp2
   go_roundw
   case rel => exact ⟨i + 1, m + 1, by omega, by go_num, by go_num, by rw [HPs.out], by omega, (by have := HMi.out; show m + 1 = st + (i + 1); omega), HF, bT⟩
   case measure => simp [intOf]; omega
def r8 (a b : aA) : Bool := K6 a.dev a.seq a.stamp a.kind a.item a.qty a.level a.undos b.dev b.seq b.stamp b.kind b.item b.qty b.level b.undos
def oQ (a b : aA) : Bool := preB a.stamp a.dev a.seq b.stamp b.dev b.seq
def iM (a b : aA) : aA := if r8 b a = true then a else b
structure cL where
 level : Int
 counted : aA
 placed : aA
def cL.zero : cL := ⟨0, aA.zero, aA.zero⟩
def tB (kind : Int) : Bool := decide (kind = 1 ∨ kind = 2)
def gT (kind : Int) : Bool := decide (kind = 1 ∨ kind = 4 ∨ kind = 5)
def eW (s : cL) (o : aA) : cL := ⟨max s.level o.level, if tB o.kind = true then iM s.counted o else s.counted, if gT o.kind = true then iM s.placed o else s.placed⟩
def cA (item : ByteArray) (bJ : List aA) : cL := bJ.foldl (fun s o => if o.item = item then eW s o else s) cL.zero
theorem uZ (item : ByteArray) (bJ : List aA) (o : aA) : cA item (bJ ++ [o]) = if o.item = item then eW (cA item bJ) o else cA item bJ := by
 unfold cA
 rw [List.foldl_append]
 rfl
theorem aCn (item : ByteArray) (bJ : List aA) : 0 ≤ (cA item bJ).level := by
 unfold cA
 have : ∀ (l : List aA) (s : cL), 0 ≤ s.level → 0 ≤ (l.foldl (fun s o => if o.item = item then eW s o else s) s).level := by
  intro l
  induction l with
  | nil => intro s h; exact h
  | cons o l ih =>
   intro s h
   rw [List.foldl_cons]; refine ih _ ?_
   split
   ·show 0 ≤ max _ _; omega
   ·exact h
 exact this bJ cL.zero (Int.le_refl _)
def aI (item : ByteArray) (l : List aA) : Nat → Int
 | 0 => 0
 | k + 1 => if (l.getD k aA.zero).item = item ∧ (l.getD k aA.zero).undos % 2 = 0 then max (aI item l k) (l.getD k aA.zero).level else aI item l k
def bE (P : Int → Bool) (item : ByteArray) (l : List aA) : Nat → aA
 | 0 => aA.zero
 | k + 1 => if (P (l.getD k aA.zero).kind = true ∧ (l.getD k aA.zero).item = item ∧ (l.getD k aA.zero).undos % 2 = 0) ∧ ((bE P item l k).kind = 0 ∨ oQ (bE P item l k) (l.getD k aA.zero) = true) then l.getD k aA.zero else bE P item l k
theorem E1 (P : Int → Bool) (item : ByteArray) (l : List aA) : ∀ k, bE P item l k = aA.zero ∨ ∃ i, i < k ∧ bE P item l k = aC l i
 | 0 => .inl rfl
 | k + 1 => by
  rw [bE]
  split
  ·exact .inr ⟨k, by omega, rfl⟩
  ·rcases E1 P item l k with h | ⟨i, hi, h⟩
   ·exact .inl h
   ·exact .inr ⟨i, by omega, h⟩
theorem aEy {o : aA} (h : o.ok = true) : 1 ≤ o.kind ∧ o.kind ≤ 5 := by
 unfold aA.ok dM H9 at h
 simp only [Bool.and_eq_true] at h
 have := gJ.1 h.2.1
 exact this
theorem aHz : aA.zero.ok = false := by
 rcases h : aA.zero.ok with _ | _
 ·rfl
 ·have := aEy h
  have e : aA.zero.kind = 0 := rfl; omega
theorem aLU {a b : aA} (ha : a.ok = true) (hb : b.ok = true) : r8 a b = oQ a b := by
 unfold r8 K6
 unfold aA.ok at ha hb
 rw [ha, hb]
 rfl
theorem aKz {a b : aA} (hb : b.ok = false) : r8 a b = false := by
 unfold r8 K6
 unfold aA.ok at hb
 rw [hb]
 simp
theorem aHI {a b : aA} (h : a.dev ≠ b.dev ∨ a.seq ≠ b.seq) : oQ a b = !oQ b a := by
 unfold oQ preB
 rcases Int.lt_trichotomy a.stamp b.stamp with h1 | h1 | h1 <;> rcases Int.lt_trichotomy a.dev b.dev with h2 | h2 | h2 <;> rcases Int.lt_trichotomy a.seq b.seq with h3 | h3 | h3 <;> (rw [Bool.eq_iff_iff]; simp; omega)
theorem aAo {xs : List Int} {l : List aA} (hc : aE xs l = true) (P : Int → Bool) (item : ByteArray) {k : Nat} (hk : k < l.length) :
  iM (bE P item l k) (l.getD k aA.zero) = if (bE P item l k).kind = 0 ∨ oQ (bE P item l k) (l.getD k aA.zero) = true then l.getD k aA.zero else bE P item l k := by
 obtain ⟨_, _, _, _, _, hok, _, _⟩ := gE hc hk
 unfold iM
 rcases E1 P item l k with h | ⟨i, hi, h⟩
 ·rw [h, aKz aHz, if_neg (by simp), if_pos (.inl rfl)]
 ·obtain ⟨_, _, _, _, _, aLq, _, _⟩ := gE hc (i := i) (by omega)
  rw [h]; have hn : (aC l i).kind ≠ 0 := by have := aEy aLq; omega
  have bO : (aC l i).dev ≠ (l.getD k aA.zero).dev ∨ (aC l i).seq ≠ (l.getD k aA.zero).seq := by
   rcases Classical.em ((aC l i).dev = (l.getD k aA.zero).dev) with h1 | h1
   ·right; intro h2
    have := aIS hc (i := i) (j := k) (by omega) hk h1 h2
    omega
   ·exact .inl h1
  have hb : r8 (l.getD k aA.zero) (aC l i) = oQ (l.getD k aA.zero) (aC l i) := aLU hok aLq; rw [hb, aHI bO]; cases oQ (l.getD k aA.zero) (aC l i)
  ·rw [if_neg (by simp), if_pos (.inr rfl)]
  ·rw [if_pos rfl, if_neg (by simp [hn])]
theorem xY {xs : List Int} {l : List aA} (hc : aE xs l = true) (item : ByteArray) : ∀ k, k ≤ l.length → cA item (gV l k) = ⟨aI item l k, bE tB item l k, bE gT item l k⟩
 | 0, _ => rfl
 | k + 1, hk => by
  have qF : k < l.length := hk; have ih := xY hc item k (by omega)
  obtain ⟨_, _, _, _, _, hok, _, _⟩ := gE hc qF; have hl := aBl hok; have e : aC l k = l.getD k aA.zero := rfl; rw [e] at hl
  by_cases hu : (l.getD k aA.zero).undos % 2 = 0
  ·rw [I7 qF (by rw [hl, decide_eq_true hu]), uZ]
   by_cases hi : (l.getD k aA.zero).item = item
   ·rw [if_pos hi, ih, aI, if_pos ⟨hi, hu⟩, bE, bE]
    unfold eW; simp only []
    congr 1
    ·cases hP : tB (l.getD k aA.zero).kind
     ·rw [if_neg (by simp), if_neg (by simp)]
     ·rw [if_pos rfl, aAo hc tB item qF]
      simp only [hi, hu, true_and, and_self]
    ·cases hP : gT (l.getD k aA.zero).kind
     ·rw [if_neg (by simp), if_neg (by simp)]
     ·rw [if_pos rfl, aAo hc gT item qF]
      simp only [hi, hu, true_and, and_self]
   ·rw [if_neg hi, ih, aI, if_neg (fun h => hi h.1), bE, if_neg (fun h => hi h.1.2.1), bE, if_neg (fun h => hi h.1.2.1)]
  ·rw [Q9 qF (by rw [hl, decide_eq_false hu]), ih, aI, if_neg (fun h => hu h.2), bE, if_neg (fun h => hu h.1.2.2), bE, if_neg (fun h => hu h.1.2.2)]
theorem dK {o : aA} (h : o.ok = true) : 1 ≤ o.seq ∧ o.seq ≤ 40 ∧ 1 ≤ o.stamp ∧ o.stamp ≤ 100000 ∧ o.item.size ≤ 8 ∧ 0 ≤ o.undos ∧ o.undos ≤ 50 ∧ 0 ≤ o.level ∧ o.level ≤ 100 := by
 have h' : dM o.dev o.seq o.stamp o.kind o.item o.qty o.level o.undos = true := h
 unfold dM rA H9 at h'
 simp only [Bool.and_eq_true] at h'
 obtain ⟨⟨_, hs, ht, hi, hu⟩, _, _, hl⟩ := h'
 unfold cV at hs ht hu
 have hs := of_decide_eq_true hs
 have ht := of_decide_eq_true ht
 have hu := of_decide_eq_true hu
 unfold fJ at hi
 rw [Bool.and_eq_true] at hi
 have hi := of_decide_eq_true hi.1
 have hlv : 0 ≤ o.level ∧ o.level ≤ 100 := by
  unfold lB at hl
  split at hl
  ·rw [Bool.and_eq_true] at hl
   have := of_decide_eq_true (show decide (1 ≤ o.level ∧ o.level ≤ 100) = true from hl.1); omega
  ·split at hl
   ·rw [Bool.and_eq_true] at hl
    have := of_decide_eq_true (show decide (2 ≤ o.level ∧ o.level ≤ 100) = true from hl.1); omega
   ·have := of_decide_eq_true hl
    omega
 exact ⟨hs.1, hs.2, ht.1, ht.2, hi.2, hu.1, hu.2, hlv.1, hlv.2⟩
theorem eU {xs : List Int} {l : List aA} (h : aE xs l = true) {i : Nat} (hi : i < l.length) : (aC l i).ok = true := by
 obtain ⟨_, _, _, _, _, hok, _⟩ := gE h hi
 exact hok
theorem iH {xs : List Int} {l : List aA} (h : aE xs l = true) : xs.length = 4 ∧ ∀ d, d < 4 → 0 ≤ xs.getD d 0 ∧ xs.getD d 0 ≤ 40 := by
 have hv : cJ xs = true := by
  cases e : cJ xs
  ·rw [q6 e] at h; cases h
  ·rfl
 unfold cJ at hv
 rw [Bool.and_eq_true] at hv
 have hl := of_decide_eq_true hv.2
 refine ⟨hl, fun d hd => ?_⟩
 have hm : xs.getD d 0 ∈ xs := by rw [List.getD_eq_getElem?_getD, List.getElem?_eq_getElem (by omega)]; exact List.getElem_mem _
 have := List.all_eq_true.1 hv.1 _ hm
 exact J5 this
theorem eF {xs : List Int} {l : List aA} (h : aE xs l = true) : l.length ≤ 160 := by
 have hv := (iH h).2
 unfold aE at h
 rw [Bool.and_eq_true, Bool.and_eq_true] at h
 have hs := of_decide_eq_true h.2.2
 have h0 := hv 0 (by omega)
 have h1 := hv 1 (by omega)
 have h2 := hv 2 (by omega)
 have h3 := hv 3 (by omega)
 have : aO xs 4 = (((0 + (xs.getD 0 0).toNat) + (xs.getD 1 0).toNat) + (xs.getD 2 0).toNat) + (xs.getD 3 0).toNat := rfl
 omega
theorem xL {xs : List Int} {l : List aA} (h : aE xs l = true) (item : ByteArray) : ∀ k, k ≤ l.length → aI item l k ≤ 100
 | 0, _ => by show (0 : Int) ≤ 100; omega
 | k + 1, hk => by
  have ih := xL h item k (by omega)
  have hb := dK (eU h (i := k) (by omega))
  have e : l.getD k aA.zero = aC l k := rfl; rw [aI, e]
  split
  ·omega
  ·exact ih
end Go.Proofs.YthkagbnpcjidfaaGreatDoor
