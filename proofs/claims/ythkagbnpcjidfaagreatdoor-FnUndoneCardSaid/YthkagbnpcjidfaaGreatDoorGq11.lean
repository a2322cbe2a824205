/- Walks and mathematics that several claims share, part 11. -/
import Derived.Test.YthkagbnpcjidfaaGreatDoorGq8
import Derived.Test.YthkagbnpcjidfaaGreatDoorGq10
import Derived.Deep.Cut
import Derived.Deep.RegionHeld3
namespace Go.Proofs.YthkagbnpcjidfaaGreatDoor
set_option maxRecDepth 100000
open Go.RowKit
set_option linter.unusedVariables false
set_option linter.unusedSimpArgs false
def aP (xs : List Int) : Nat → Nat
 | 0 => 0
 | d + 1 => aP xs d + (xs.getD d 0).toNat
def jD (xs : List Int) (l : List aA) (d : Nat) : Bool := decide (aP xs (d + 1) ≤ l.length) && lU l d (aP xs d) (xs.getD d 0).toNat
def aD (xs : List Int) (l : List aA) : Bool := cL xs && ((List.range 4).all (jD xs l) && decide (aP xs 4 = l.length))
theorem aBf {xs : List Int} {l : List aA} (h : cL xs = false) : aD xs l = false := by unfold aD; rw [h]; rfl
theorem aEX {xs : List Int} {l : List aA} {d : Nat} (hd : d < 4) (h : jD xs l d = false) : aD xs l = false := by
 have e : (List.range 4).all (jD xs l) = false := by
  rw [List.all_eq_false]; exact ⟨d, by simpa using hd, by simp [h]⟩
 unfold aD
 rw [e]
 simp
theorem aBh {xs : List Int} {l : List aA} (h : cL xs = true) (hd : ∀ d, d < 4 → jD xs l d = true) : aD xs l = decide (aP xs 4 = l.length) := by
 have e : (List.range 4).all (jD xs l) = true := by
  rw [List.all_eq_true]
  intro d hm
  exact hd d (by simpa using hm)
 unfold aD
 rw [h, e]
 rfl
theorem fO {xs : List Int} (h : cL xs = true) {d : Nat} (hd : d < 4) : 0 ≤ xs.getD d 0 ∧ xs.getD d 0 ≤ 40 ∧ xs.length = 4 := by
 unfold cL at h
 simp only [Bool.and_eq_true, decide_eq_true_eq, List.all_eq_true] at h
 obtain ⟨h1, h2⟩ := h
 have hm : xs.getD d 0 ∈ xs := by
  rw [List.getD_eq_getElem?_getD, List.getElem?_eq_getElem (by omega)]
  exact List.getElem_mem _
 have := Q4 (h1 _ hm)
 exact ⟨this.1, this.2, h2⟩
theorem aI1 {l : List aA} {st c i : Nat} (hi : i < c) : aB ((l.drop st).take c) i = aB l (st + i) := by
 unfold aB
 rw [List.getD_eq_getElem?_getD, List.getElem?_take_of_lt hi, List.getElem?_drop, List.getD_eq_getElem?_getD]
theorem aLN {l : List aA} {dev st c : Nat} : lU ((l.drop st).take c) dev 0 c = lU l dev st c := by
 unfold lU
 rw [Bool.eq_iff_iff, List.all_eq_true, List.all_eq_true]
 have key : ∀ i, i < c → kG ((l.drop st).take c) dev 0 i = kG l dev st i := fun i hi => by
  have e1 : aB ((l.drop st).take c) (0 + i) = aB l (st + i) := by rw [Nat.zero_add]; exact aI1 hi
  have e2 : dO ((l.drop st).take c) 0 i = dO l st i := by
   unfold dO
   split
   ·rfl
   ·have e : 0 + i - 1 = i - 1 := by omega
    have e' : st + i - 1 = st + (i - 1) := by omega
    rw [e, e', aI1 (by omega)]
  unfold kG; rw [e1, e2]
 constructor
 ·intro h i hi
  rw [← key i (by simpa using hi)]
  exact h i hi
 ·intro h i hi
  rw [key i (by simpa using hi)]
  exact h i hi
theorem bR.take {w : World} {B : Nat} {a : Option Addr} {n : Nat} {l : List aA} (h : bR w B a n l) {c : Nat} (hc : c ≤ n) : bR w B a c (l.take c) :=
 ⟨by rw [List.length_take, h.1]; omega, fun i hi => by
  obtain ⟨b, off, e, hb, ho⟩ := h.2 i (by omega)
  have e2 : (l.take c).getD i aA.zero = l.getD i aA.zero := by rw [List.getD_eq_getElem?_getD, List.getElem?_take_of_lt hi, List.getD_eq_getElem?_getD]
  exact ⟨b, off, e, hb, by rw [e2]; exact ho⟩⟩
theorem bR.dropMap {w : World} {B : Nat} {a : Option Addr} {n : Nat} {l : List aA} (h : bR w B a n l) {c : Nat} (hc : c ≤ n) : bR w B (Option.map (fun x => x.add (c * 8)) a) (n - c) (l.drop c) :=
 ⟨by rw [List.length_drop, h.1], fun i hi => by
  obtain ⟨b, off, e, hb, ho⟩ := h.2 (c + i) (by omega)
  subst e; have e3 : (l.drop c).getD i aA.zero = l.getD (c + i) aA.zero := by rw [List.getD_eq_getElem?_getD, List.getElem?_drop, List.getD_eq_getElem?_getD]
  exact ⟨b, off + c * 8, by rw [Option.map_some, uB], hb, by rw [e3, show off + c * 8 + i * 8 = off + (c + i) * 8 by omega]; exact ho⟩⟩
theorem aC0 {w : World} {B : Nat} {a : Option Addr} {l : List aA} (h : l.length = 0) : bR w B a 0 l := ⟨h, fun i hi => by omega⟩
set_option maxHeartbeats 20000000 in
theorem kO (w : World) (B : Nat) (av ao : Option Addr) (nv cv no co : Nat) (xs : List Int) (l : List aA) (hx : Ints w B av nv xs) (h : bR w B ao no l) (hB : B ≤ w.heap.size) (hv : nv ≤ 1048576) (hc : no ≤ co) (cY : Fits no co) :
  Calls Tryz.prog 23 #[.agg #[.slice av nv cv, .slice ao no co]] w fun e w' => e = .returned (.bool (aD xs l)) ∧ Below w.heap.size w w' := by
 have xE : no ≤ 1048576 := cY.1
 have bG : Below w.heap.size w (w.alloc (.cells #[.slice av nv cv, .slice ao no co] 27)) := (Below.refl _ w).alloc aRr _
 have HV := aRp (hx.below bG hB)
 have HO := aRp (h.below bG hB)
 have HB := aRp bG
 have HX := aRp (bM (Below.refl _ (w.alloc (.cells #[.slice av nv cv, .slice ao no co] 27))))
 have HL := aRp h.1
 have dA : w.heap.size < (w.alloc (.cells #[.slice av nv cv, .slice ao no co] 27)).heap.size := by show _ < (w.heap.push _).size; simp
 clear hx h bG
 rcases hvk : cL xs with _ | _
 ·have HF := aRp (aBf (l := l) hvk)
  have HK := aRp hvk; clear hvk
  go_enter Tryz.func23, Tryz.ntmps23
  go_wp2_with fail
  refine (aDe _ B av nv cv xs HV.out hv).mono ?_
  rintro e w1 ⟨rfl, rfl⟩; rw [HK.out]; go_wp2
  go_ret
  exact ⟨by rw [HF.out]; rfl, HB.out⟩
 have HK := aRp hvk
 have h4 : nv = 4 := HV.out.1.symm.trans (fO hvk (d := 0) (by omega)).2.2
 subst h4
 have HAt := aRp (fun d (hd : d < 4) => fO hvk hd)
 have HCE := aRp (aBh (l := l) hvk)
 have HCD : Hid (∀ d, d < 4 → jD xs l d = false → aD xs l = false) := fun d hd h => aEX hd h
 clear hvk
 go_enter Tryz.func23, Tryz.ntmps23
 go_wp2_with fail
 generalize w.alloc (.cells #[.slice av 4 cv, .slice ao no co] 27) = w0 at HV HO HB HX dA ⊢
 refine (aDe _ B av 4 cv xs HV.out hv).mono ?_
 rintro e w1 ⟨rfl, rfl⟩
 rw [HK.out]
 obtain ⟨c0, c1⟩ := pair_cells HX.out
 go_wp2
 go_loopw [3, 15] (fun r i wr => ∃ (d rn rc : Nat) (ra : Option Addr), d ≤ 4 ∧ i = .int .i64 d ∧ r = .slice ra rn rc ∧ rn ≤ rc ∧ Hid (K3 rc) ∧ Hid (bR w0 B ra rn (l.drop (aP xs d)) ∧ aP xs d + rn = l.length ∧ ∀ d', d' < d → jD xs l d' = true) ∧ Hid (Below w0.heap.size w0 wr)) (fun _ i _ => 4 - (intOf i).toNat)
 case atStart => exact ⟨0, no, co, ao, by omega, rfl, rfl, hc, cY.2, ⟨HO.out, (by rw [HL.out]; simp [aP]), fun d' hd' => by omega⟩, Below.refl _ _⟩
 case round =>
  obtain ⟨d, rn, rc, ra, hd, rfl, rfl, W9, aPD, HR, eE⟩ := hrel
  by_cases aM : d < 4
  rotate_left
  ·obtain rfl : d = 4 := by omega
   have HF := aRp (HCE.out HR.out.2.2); have HS := aRp HR.out.2.1
   by_cases hz : rn = 0
   ·subst hz
    have HT : Hid (decide (aP xs 4 = l.length) = true) := decide_eq_true (by have := HS.out; omega)
    go_wp2
    go_ret
    exact ⟨by rw [HF.out, HT.out]; rfl, HB.out.trans (eE.out.mono HB.out.size)⟩
   ·have hzb : ((rn : Int) == 0) = false := by rw [beq_eq_false_iff_ne]; omega
    have HT : Hid (decide (aP xs 4 = l.length) = false) := decide_eq_false (by have := HS.out; omega)
    go_wp2
    go_ret
    exact ⟨by rw [HF.out, HT.out]; rfl, HB.out.trans (eE.out.mono HB.out.size)⟩
  obtain ⟨bv, ov, rfl, hbv, bU⟩ := HV.out.2 d aM; have aPY := (eE.out.cell (p := ⟨bv, ov + d, none⟩) (by show bv < w0.heap.size; omega)).trans bU
  obtain ⟨g1, g2, g3⟩ := HAt.out d aM; obtain ⟨c, hcx⟩ := Int.eq_ofNat_of_zero_le g1; have cI : Hid (aP xs (d + 1) = aP xs d + c) := by show aP xs (d + 1) = _; rw [aP, hcx]; rfl
  have HDv : Hid (jD xs l d = (decide (aP xs (d + 1) ≤ l.length) && lU l d (aP xs d) c)) := by show jD xs l d = _; unfold jD; rw [hcx]; rfl
  rw [hcx] at aPY g2; clear bU hcx g1 g3
  by_cases jP : c ≤ rn
  rotate_left
  ·have HF := aRp (HCD.out d aM (by rw [HDv.out, decide_eq_false (by have := cI.out; have := HR.out.2.1; omega)]; rfl))
   have hgt : (rn : Int) < (c : Int) := by omega
   go_wp2
   go_ret
   exact ⟨by rw [HF.out]; rfl, HB.out.trans (eE.out.mono HB.out.size)⟩
  have hgt : ¬ (rn : Int) < (c : Int) := by omega
  have HOc := aRp ((HR.out.1.below eE.out (by omega)).take jP)
  go_wp2_with fail
  refine (aKf wr B ra c rc d _ HOc.out (by have := eE.out.size; omega) (by omega)).mono ?_
  rintro e w2 ⟨rfl, aI⟩; rw [aLN]; have cA := aRp (eE.out.trans (aI.mono eE.out.size)); clear aI HOc; rcases hrun : lU l d (aP xs d) c with _ | _
  ·have HF := aRp (HCD.out d aM (by rw [HDv.out, hrun, Bool.and_false]))
   clear hrun; go_wp2
   go_ret
   exact ⟨by rw [HF.out]; rfl, HB.out.trans (cA.out.mono HB.out.size)⟩
  have HDt : Hid (∀ d', d' < d + 1 → jD xs l d' = true) := fun d' hd' => by
   rcases Nat.lt_or_ge d' d with h1 | h1
   ·exact HR.out.2.2 d' h1
   ·obtain rfl : d' = d := by omega
    rw [HDv.out, hrun, decide_eq_true (by have := cI.out; have := HR.out.2.1; omega)]
    rfl
  clear hrun HCD HDv eE; have HRl : Hid (aP xs (d + 1) + (rn - c) = l.length) := by have := cI.out; have := HR.out.2.1; show _ = _; omega
  have HLd : Hid (l.drop (aP xs (d + 1)) = (l.drop (aP xs d)).drop c) := by show _ = _; rw [cI.out, List.drop_drop]
  have HLl : Hid ((l.drop (aP xs (d + 1))).length = rn - c) := by show List.length _ = _; rw [List.length_drop]; have := HRl.out; omega
  have hci : (c : Int) ≤ (rn : Int) := by omega
  have aRc : (c : Int) ≤ (rc : Int) := by omega
  have aQL : (rn : Int) ≤ (rc : Int) := by omega
  by_cases oB : c = rc
  ·obtain rfl : rn = c := by omega
   have HO0 := aRp (fun a => aC0 (w := w0) (B := B) (a := a) (show (l.drop (aP xs (d + 1))).length = 0 by rw [HLl.out]; omega))
   go_wp2
   exact ⟨⟨d + 1, 0, 0, ra, by omega, by go_num, rfl, Nat.le_refl _, Nat.zero_le _, ⟨HO0.out ra, (by have := HRl.out; omega), HDt.out⟩, cA⟩, by simp [intOf]; omega⟩
  ·have aRd : ¬ (rc : Int) = (c : Int) := by omega
   have HOd := aRp (HR.out.1.dropMap jP); rw [← HLd.out] at HOd; go_wp2
   exact ⟨⟨d + 1, rn - c, rc - c, _, by omega, by go_num, rfl, by omega, aPD.out.sub c, ⟨HOd.out, HRl.out, HDt.out⟩, cA⟩, by simp [intOf]; omega⟩
def aA.val (o : aA) : Value := .agg #[.int .i64 o.dev, .int .i64 o.seq, .int .i64 o.stamp, .int .i64 o.kind, .string o.item, .int .i64 o.qty, .int .i64 o.level, .int .i64 o.undos]
def aA.live (o : aA) : Bool := aAt o.dev o.seq o.stamp o.kind o.item o.qty o.level o.undos
def iC (l : List aA) (k : Nat) : List aA := (l.take k).filter aA.live
theorem take_at {l : List aA} {k : Nat} (h : k < l.length) : l.take (k + 1) = l.take k ++ [l.getD k aA.zero] := by
 rw [List.take_succ_eq_append_getElem h, List.getD_eq_getElem?_getD, List.getElem?_eq_getElem h]
 rfl
theorem P8 {l : List aA} {k : Nat} (hk : k < l.length) (h : (l.getD k aA.zero).live = true) : iC l (k + 1) = iC l k ++ [l.getD k aA.zero] := by
 unfold iC
 rw [take_at hk, List.filter_append, List.filter_cons, if_pos h, List.filter_nil]
theorem j1 {l : List aA} {k : Nat} (hk : k < l.length) (h : (l.getD k aA.zero).live = false) : iC l (k + 1) = iC l k := by
 unfold iC
 rw [take_at hk, List.filter_append, List.filter_cons, if_neg (by rw [h]; exact Bool.false_ne_true), List.filter_nil, List.append_nil]
theorem aBM (l : List aA) (k : Nat) : (iC l k).length ≤ k := by
 unfold iC
 exact Nat.le_trans (List.length_filter_le _ _) (List.length_take_le _ _)
theorem qS {xs : List Int} {l : List aA} (h : aD xs l = true) : cL xs = true ∧ (∀ d, d < 4 → jD xs l d = true) ∧ aP xs 4 = l.length := by
 unfold aD at h
 simp only [Bool.and_eq_true, decide_eq_true_eq, List.all_eq_true] at h
 exact ⟨h.1, fun d hd => h.2.1 d (by simpa using hd), h.2.2⟩
theorem aF4 {xs : List Int} {i : Nat} : ∀ d, i < aP xs d → ∃ e k, e < d ∧ k < (xs.getD e 0).toNat ∧ i = aP xs e + k
 | 0, h => by simp [aP] at h
 | d + 1, h => by
  rcases Nat.lt_or_ge i (aP xs d) with h1 | h1
  ·obtain ⟨e, k, he, hk, hi⟩ := aF4 d h1
   exact ⟨e, k, by omega, hk, hi⟩
  ·rw [aP] at h
   exact ⟨d, i - aP xs d, by omega, by omega, by omega⟩
theorem fU {xs : List Int} {l : List aA} (h : aD xs l = true) {i : Nat} (hi : i < l.length) :
  ∃ d k, d < 4 ∧ k < (xs.getD d 0).toNat ∧ i = aP xs d + k ∧ (aB l i).ok = true ∧ (aB l i).dev = (d : Int) ∧ (aB l i).seq = (k : Int) + 1 := by
 obtain ⟨_, hd, hs⟩ := qS h
 obtain ⟨d, k, h1, h2, rfl⟩ := aF4 (xs := xs) 4 (by rw [hs]; exact hi)
 have hb := hd d h1
 unfold jD at hb
 simp only [Bool.and_eq_true, decide_eq_true_eq] at hb
 have hr := hb.2
 unfold lU at hr
 rw [List.all_eq_true] at hr
 have hf := hr k (by simpa using h2)
 unfold kG at hf
 simp only [Bool.and_eq_true, decide_eq_true_eq] at hf
 exact ⟨d, k, h1, h2, rfl, hf.1, hf.2.1, hf.2.2.1⟩
theorem aKp {xs : List Int} {l : List aA} (h : aD xs l = true) {i j : Nat} (hi : i < l.length) (hj : j < l.length) (hd : (aB l i).dev = (aB l j).dev) (hs : (aB l i).seq = (aB l j).seq) : i = j := by
 obtain ⟨d, k, _, _, rfl, _, h1, h2⟩ := fU h hi
 obtain ⟨e, m, _, _, rfl, _, g1, g2⟩ := fU h hj
 obtain rfl : d = e := by have := h1.symm.trans (hd.trans g1); omega
 have := h2.symm.trans (hs.trans g2)
 omega
theorem aCy {o : aA} (h : o.ok = true) : o.live = decide (o.undos % 2 = 0) := by
 unfold aA.live aAt
 unfold aA.ok at h
 rw [h]
 rfl
def lastOf (dev : Int) (bN : List aA) : Int := bN.foldl (fun n o => if o.dev = dev then max n o.seq else n) 0
theorem aAN (dev : Int) (bN : List aA) (o : aA) : lastOf dev (bN ++ [o]) = if o.dev = dev then max (lastOf dev bN) o.seq else lastOf dev bN := by
 unfold lastOf
 rw [List.foldl_append]
 rfl
theorem H8 {xs : List Int} {l : List aA} (h : aD xs l = true) {i j : Nat} (hij : i < j) (hj : j < l.length) (hd : (aB l i).dev = (aB l j).dev) : (aB l i).seq < (aB l j).seq := by
 obtain ⟨d, k, _, _, hi, _, h1, h2⟩ := fU h (i := i) (by omega)
 obtain ⟨e, m, _, _, hj', _, g1, g2⟩ := fU h hj
 obtain rfl : d = e := by have := h1.symm.trans (hd.trans g1); omega
 rw [h2, g2]
 omega
def cO (dev : Int) (l : List aA) : Nat → Int
 | 0 => 0
 | k + 1 => if (l.getD k aA.zero).dev = dev ∧ (l.getD k aA.zero).undos % 2 = 0 then (l.getD k aA.zero).seq else cO dev l k
theorem wU (dev : Int) (l : List aA) : ∀ k, cO dev l k = 0 ∨ ∃ i, i < k ∧ (aB l i).dev = dev ∧ cO dev l k = (aB l i).seq
 | 0 => .inl rfl
 | k + 1 => by
  rw [cO]
  split
  ·rename_i h
   exact .inr ⟨k, by omega, h.1, rfl⟩
  ·rcases wU dev l k with h | ⟨i, hi, h⟩
   ·exact .inl h
   ·exact .inr ⟨i, by omega, h⟩
theorem aCU {xs : List Int} {l : List aA} (hc : aD xs l = true) (dev : Int) : ∀ k, k ≤ l.length → lastOf dev (iC l k) = cO dev l k
 | 0, _ => rfl
 | k + 1, hk => by
  have nX : k < l.length := hk; have ih := aCU hc dev k (by omega)
  obtain ⟨d, m, _, _, _, hok, iO, hsq⟩ := fU hc nX; have hl := aCy hok; have e : aB l k = l.getD k aA.zero := rfl; rw [e] at hl iO hsq
  by_cases hu : (l.getD k aA.zero).undos % 2 = 0
  ·rw [P8 nX (by rw [hl, decide_eq_true hu]), aAN, ih, cO]
   by_cases hd : (l.getD k aA.zero).dev = dev
   ·rw [if_pos hd, if_pos ⟨hd, hu⟩]
    rcases wU dev l k with h | ⟨i, hi, h1, h2⟩
    ·rw [h]; omega
    ·have := H8 hc hi nX (h1.trans hd.symm)
     rw [e] at this; rw [h2]; omega
   ·rw [if_neg hd, if_neg (fun h => hd h.1)]
  ·rw [j1 nX (by rw [hl, decide_eq_false hu]), ih, cO, if_neg (fun h => hu h.2)]
theorem aAJ {xs : List Int} {l : List aA} (hc : aD xs l = true) {dev : Int} (hd : ¬ (0 ≤ dev ∧ dev ≤ 3)) : ∀ k, k ≤ l.length → cO dev l k = 0
 | 0, _ => rfl
 | k + 1, hk => by
  obtain ⟨d, m, h4, _, _, _, iO, _⟩ := fU hc (i := k) hk; have e : aB l k = l.getD k aA.zero := rfl; rw [e] at iO; rw [cO, if_neg (fun h => hd (by rw [← h.1, iO]; omega)), aAJ hc hd k (by omega)]
theorem aF3 {xs : List Int} {l : List aA} (hc : aD xs l = true) (d : Nat) (k : Nat) (hk : k ≤ l.length) : 0 ≤ cO (d : Int) l k ∧ cO (d : Int) l k ≤ 40 := by
 rcases wU (d : Int) l k with h | ⟨i, hi, h1, h2⟩
 ·rw [h]; omega
 ·obtain ⟨e, m, he, hm, _, _, iO, hsq⟩ := fU hc (i := i) (by omega)
  have := (fO (qS hc).1 he).2.1; rw [h2, hsq]; omega
theorem aIY {xs : List Int} {l : List aA} (hc : aD xs l = true) {d : Nat} (hd : d < 4) {n : Int} (hn : 1 ≤ n) : n ≤ xs.getD d 0 ↔ ∃ i, i < l.length ∧ (aB l i).dev = (d : Int) ∧ (aB l i).seq = n := by
 obtain ⟨hv, iO, hs⟩ := qS hc
 constructor
 ·intro h
  have hb := iO d hd; unfold jD at hb; simp only [Bool.and_eq_true, decide_eq_true_eq] at hb
  have hx := fO hv hd; have hi : aP xs d + (n.toNat - 1) < l.length := by have := hb.1; rw [aP] at this; omega
  refine ⟨aP xs d + (n.toNat - 1), hi, ?_⟩
  have hr := hb.2; unfold lU at hr; rw [List.all_eq_true] at hr; have hf := hr (n.toNat - 1) (by rw [List.mem_range]; omega)
  unfold kG at hf; simp only [Bool.and_eq_true, decide_eq_true_eq] at hf
  exact ⟨hf.2.1, by rw [hf.2.2.1]; omega⟩
 ·rintro ⟨i, hi, h1, h2⟩
  obtain ⟨e, m, he, hm, _, _, g1, g2⟩ := fU hc hi; obtain rfl : e = d := by have := g1.symm.trans h1; omega
  rw [← h2, g2]; omega
def cX (l : List aA) : Nat → Int
 | 0 => 0
 | k + 1 => max (cX l k) (aB l k).stamp
theorem pI (l : List aA) : ∀ k, 0 ≤ cX l k
 | 0 => Int.le_refl _
 | k + 1 => by have := pI l k; rw [cX]; omega
theorem tG {l : List aA} {N : Int} (hN : 0 ≤ N) (h : ∀ i, i < l.length → (aB l i).stamp ≤ N) : ∀ k, k ≤ l.length → cX l k ≤ N
 | 0, _ => hN
 | k + 1, hk => by
  have := tG hN h k (by omega)
  have := h k (by omega)
  rw [cX]; omega
def putAt (dev : Int) (l : List aA) : Nat := (l.takeWhile fun x => decide (x.dev ≤ dev)).length
theorem mX (dev : Int) (l : List aA) : putAt dev l ≤ l.length := by unfold putAt; exact (List.takeWhile_sublist _).length_le
theorem aA0 {dev : Int} : ∀ {l : List aA} {i : Nat}, i < putAt dev l → (aB l i).dev ≤ dev
 | [], i, h => absurd h (by simp [putAt])
 | x :: l, i, h => by
  by_cases hx : x.dev ≤ dev
  ·match i with
   | 0 => exact hx
   | j + 1 =>
    have : j < putAt dev l := by
     unfold putAt at h ⊢; rw [List.takeWhile_cons, if_pos (by simpa using hx), List.length_cons] at h
     omega
    have h2 : (aB l j).dev ≤ dev := aA0 this; exact h2
  ·unfold putAt at h
   rw [List.takeWhile_cons, if_neg (by simpa using hx)] at h
   simp at h
theorem c9 {dev : Int} : ∀ {l : List aA}, putAt dev l < l.length → ¬ (aB l (putAt dev l)).dev ≤ dev
 | [], h => absurd h (by simp)
 | x :: l, h => by
  by_cases hx : x.dev ≤ dev
  ·have e : putAt dev (x :: l) = putAt dev l + 1 := by
    unfold putAt; rw [List.takeWhile_cons, if_pos (by simpa using hx), List.length_cons]
   rw [e] at h ⊢; have h2 : ¬ (aB l (putAt dev l)).dev ≤ dev := c9 (l := l) (by simpa using h)
   exact h2
  ·have e : putAt dev (x :: l) = 0 := by
    unfold putAt; rw [List.takeWhile_cons, if_neg (by simpa using hx)]
    rfl
   rw [e]; exact hx
def aK (xs : List Int) (l : List aA) (d : Nat) (o : aA) : aA := { o with dev := (d : Int), seq := xs.getD d 0 + 1, stamp := cX l l.length + 1 }
def dH (xs : List Int) (d : Nat) : List Int := xs.set d (xs.getD d 0 + 1)
def bH (l : List aA) (d : Nat) (o : aA) : List aA := l.take (putAt (d : Int) l) ++ [o] ++ l.drop (putAt (d : Int) l)
theorem mW (l : List aA) (d : Nat) (o : aA) : (bH l d o).length = l.length + 1 := by
 unfold bH
 have := mX (d : Int) l
 simp
 omega
def iL (o : aA) : aA := { o with undos := o.undos + 1 }
def dX (l : List aA) (i : Nat) : List aA := l.set i (iL (aB l i))
theorem kC (l : List aA) (i : Nat) : (dX l i).length = l.length := by unfold dX; simp
theorem gF {α : Type} {l : List α} {i j : Nat} {x d : α} (hi : i < l.length) : (l.set i x).getD j d = if i = j then x else l.getD j d := by
 rw [List.getD_eq_getElem?_getD, List.getElem?_set]
 by_cases e : i = j
 ·rw [if_pos e, if_pos e, if_pos hi]; rfl
 ·rw [if_neg e, if_neg e, List.getD_eq_getElem?_getD]
set_option maxHeartbeats 20000000 in
theorem tH (w : World) (B : Nat) (av ao : Option Addr) (nv cv no co : Nat) (xs : List Int) (l : List aA) (hx : Ints w B av nv xs) (h : bR w B ao no l) (hB : B ≤ w.heap.size) (hv : nv ≤ 1048576) (hn : no ≤ 1048576) (hm : ∀ i, i < no → (aB l i).item.size ≤ 1048576) :
  Calls Tryz.prog 36 #[.agg #[.slice av nv cv, .slice ao no co]] w fun e w' => e = .returned (.bool (aD xs l)) ∧ Below w.heap.size w w' := by
 have bG : Below w.heap.size w (w.alloc (.cells #[.slice av nv cv, .slice ao no co] 27)) := (Below.refl _ w).alloc aRr _
 have HV := aRp (hx.below bG hB)
 have HO := aRp (h.below bG hB)
 have HB := aRp bG
 have HX := aRp (bM (Below.refl _ (w.alloc (.cells #[.slice av nv cv, .slice ao no co] 27))))
 have HL := aRp h.1
 have HM := aRp hm
 have dA : w.heap.size < (w.alloc (.cells #[.slice av nv cv, .slice ao no co] 27)).heap.size := by show _ < (w.heap.push _).size; simp
 clear hx h bG hm
 rcases hvk : cL xs with _ | _
 ·have HF := aRp (aBf (l := l) hvk)
  have HK := aRp hvk; clear hvk
  go_enter Tryz.func36, Tryz.ntmps36
  go_wp2_with fail
  refine (pY _ B av nv cv xs HV.out hv).mono ?_
  rintro e w1 ⟨rfl, rfl⟩; rw [HK.out]; go_wp2
  go_ret
  exact ⟨by rw [HF.out]; rfl, HB.out⟩
 have HK := aRp hvk
 have h4 : nv = 4 := HV.out.1.symm.trans (fO hvk (d := 0) (by omega)).2.2
 subst h4
 have HAt := aRp (fun d (hd : d < 4) => fO hvk hd)
 have HCE := aRp (aBh (l := l) hvk)
 have HCD : Hid (∀ d, d < 4 → jD xs l d = false → aD xs l = false) := fun d hd h => aEX hd h
 clear hvk
 go_enter Tryz.func36, Tryz.ntmps36
 go_wp2_with fail
 generalize w.alloc (.cells #[.slice av 4 cv, .slice ao no co] 27) = w0 at HV HO HB HX dA ⊢
 refine (pY _ B av 4 cv xs HV.out hv).mono ?_
 rintro e w1 ⟨rfl, rfl⟩
 rw [HK.out]
 go_wp2
 go_loopw [3, 4] (fun t i wr => ∃ (d at' : Nat), d ≤ 4 ∧ i = .int .i64 d ∧ t = .int .i64 at' ∧ at' ≤ no ∧ Hid (at' = aP xs d ∧ ∀ d', d' < d → jD xs l d' = true) ∧ Hid (Below w0.heap.size w0 wr)) (fun _ i _ => 4 - (intOf i).toNat)
 case atStart => exact ⟨0, 0, by omega, rfl, rfl, Nat.zero_le _, ⟨rfl, fun d' hd' => by omega⟩, Below.refl _ _⟩
 case round =>
  obtain ⟨d, st, hd, rfl, rfl, eY, HR, eE⟩ := hrel; obtain ⟨c0, c1⟩ := pair_cells ((eE.out.block _ (by omega)).trans HX.out)
  by_cases aM : d < 4
  rotate_left
  ·obtain rfl : d = 4 := by omega
   have HF := aRp (HCE.out HR.out.2)
   by_cases hz : st = no
   ·have hzb : ((st : Int) == (no : Int)) = true := by rw [hz]; exact beq_self_eq_true _
    have HT : Hid (decide (aP xs 4 = l.length) = true) := decide_eq_true (by rw [← HR.out.1, HL.out]; exact hz)
    clear hz; go_wp2
    go_ret
    exact ⟨by rw [HF.out, HT.out]; first | rfl | (simp [*]), HB.out.trans (eE.out.mono HB.out.size)⟩
   ·have hzb : ((st : Int) == (no : Int)) = false := by rw [beq_eq_false_iff_ne]; omega
    have HT : Hid (decide (aP xs 4 = l.length) = false) := decide_eq_false (by rw [← HR.out.1, HL.out]; exact hz)
    clear hz; go_wp2
    go_ret
    exact ⟨by rw [HF.out, HT.out]; first | rfl | (simp [*]), HB.out.trans (eE.out.mono HB.out.size)⟩
  obtain ⟨bv, ov, rfl, hbv, bU⟩ := HV.out.2 d aM; obtain ⟨g1, g2, g3⟩ := HAt.out d aM; obtain ⟨c, hcx⟩ := Int.eq_ofNat_of_zero_le g1; have cI : Hid (aP xs (d + 1) = st + c) := by show aP xs (d + 1) = _; rw [aP, hcx, ← HR.out.1]; rfl
  have HDv : Hid (jD xs l d = (decide (aP xs (d + 1) ≤ l.length) && lU l d st c)) := by show jD xs l d = _; unfold jD; rw [hcx, ← HR.out.1]; rfl
  rw [hcx] at bU g2; clear hcx g1 g3 c0 c1; have aRf : c ≤ 40 := by omega
  clear g2; have HCV := aRp bU; have hd4 : decide ((d : Int) < 4) = true := decide_eq_true (by omega)
  clear bU; go_wp2
  go_loopw [3, 5, 6] (fun t s q wi => ∃ (i m : Nat), i ≤ c ∧ q = .int .i64 ((i : Int) + 1) ∧ t = .int .i64 (m : Int) ∧ s = .int .i64 (dO l st i) ∧ m ≤ no ∧ Hid (m = st + i) ∧ Hid (lU l d st i = true) ∧ Hid (Below w0.heap.size w0 wi)) (fun _ _ q _ => c + 1 - (intOf q).toNat)
  case atStart => exact ⟨0, st, Nat.zero_le _, rfl, rfl, rfl, eY, rfl, rfl, eE⟩
  case round =>
   obtain ⟨i, m, hi, rfl, rfl, rfl, hin, HMi, aOb, HBi⟩ := hrel; obtain ⟨c0, c1⟩ := pair_cells ((HBi.out.block _ (by omega)).trans HX.out)
   have cv := (HBi.out.cell (p := ⟨bv, ov + d, none⟩) (by show bv < w0.heap.size; omega)).trans HCV.out
   by_cases hic : i < c
   rotate_left
   ·obtain rfl : i = c := by omega
    have yS : ¬ ((i : Int) + 1 ≤ (i : Int)) := by omega
    have HDt : Hid (∀ d', d' < d + 1 → jD xs l d' = true) := fun d' hd' => by
     rcases Nat.lt_or_ge d' d with h1 | h1
     ·exact HR.out.2 d' h1
     ·obtain rfl : d' = d := by omega
      rw [HDv.out, aOb.out, decide_eq_true (by rw [cI.out, HL.out]; have := HMi.out; omega)]
      rfl
    go_wp2
    exact ⟨⟨d + 1, m, by omega, by go_num, rfl, hin, ⟨(by rw [cI.out]; exact HMi.out), HDt.out⟩, HBi⟩, by simp [intOf]; omega⟩
   have yS : ((i : Int) + 1 ≤ (c : Int)) := by omega
   by_cases hmn : m = no
   ·have aF : ((m : Int) == (no : Int)) = true := by rw [hmn]; exact beq_self_eq_true _
    have HF := aRp (HCD.out d aM (by rw [HDv.out, decide_eq_false (by rw [cI.out, HL.out]; have := HMi.out; omega)]; rfl))
    clear hmn; go_wp2
    go_ret
    exact ⟨by rw [HF.out]; rfl, HB.out.trans (HBi.out.mono HB.out.size)⟩
   have aF : ((m : Int) == (no : Int)) = false := by rw [beq_eq_false_iff_ne]; omega
   have aNs : m < no := by omega
   have hmi : (m : Int) < (no : Int) := by omega
   have vF : (0 : Int) ≤ (m : Int) := by omega
   clear hmn; obtain ⟨b, off, rfl, hb, ho⟩ := HO.out.2 m aNs; have cV := aRp ho; have J8 := aRp (HM.out m aNs); have HA : Hid (l.getD m aA.zero = aB l (st + i)) := by show _ = _; rw [HMi.out]; rfl
   have HA2 : Hid (aB l m = aB l (st + i)) := by show _ = _; rw [HMi.out]
   rw [HA.out] at cV; rw [HA2.out] at J8; clear ho HA HA2; have HPs := aRp (wX l st i); have HY := aRp (@sU l d st i); have HZ : Hid (∀ b, kG l d st i = b → b = false → aD xs l = false) := fun b hb X1 => HCD.out d aM (by rw [HDv.out, A2 hic (hb.trans X1), Bool.and_false])
   have H1 := aRp (fun h => HZ.out _ (@aIK l d st i h) rfl)
   have H2 := aRp (fun h => HZ.out _ (@aGq l d st i h) rfl)
   have H3 := aRp (fun h => HZ.out _ (@aGp l d st i h) rfl)
   have H4 := aRp (fun h => HZ.out _ (@aDf l d st i h) rfl)
   have HN := aRp (fun h => aD4 (dev := d) aOb.out h)
   clear HZ; generalize aB l (st + i) = x at HPs HY H1 H2 H3 H4 cV J8; generalize dO l st i = ps at HY H4 ⊢; obtain ⟨d0, d1, d2, d3, d4, d5, d6, d7⟩ := cV.out.kept (HBi.out.block b (by omega))
   go_wp2_with fail
   refine (aAY x.dev x.seq x.stamp x.kind x.item x.qty x.level x.undos _ J8.out).mono ?_
   rintro e w2 ⟨rfl, aI⟩; have cA := aRp (HBi.out.trans (aI.mono HBi.out.size)); clear aI c0 c1 cv d0 d1 d2 d3 d4 d5 d6 d7; obtain ⟨c0, c1⟩ := pair_cells ((cA.out.block _ (by omega)).trans HX.out)
   obtain ⟨d0, d1, d2, d3, d4, d5, d6, d7⟩ := cV.out.kept (cA.out.block b (by omega))
   rcases hok : dP x.dev x.seq x.stamp x.kind x.item x.qty x.level x.undos with _ | _
   ·have HF := aRp (H1.out hok)
    clear hok; go_wp2
    go_ret
    exact ⟨by rw [HF.out]; rfl, HB.out.trans (cA.out.mono HB.out.size)⟩
   by_cases e1 : x.dev = (d : Int)
   rotate_left
   ·have HF := aRp (H2.out e1)
    have b1 : (x.dev != (d : Int)) = true := by rw [bne_iff_ne]; exact e1
    clear hok e1; go_wp2
    go_ret
    exact ⟨by rw [HF.out]; rfl, HB.out.trans (cA.out.mono HB.out.size)⟩
   have b1 : (x.dev != (d : Int)) = false := by rw [e1]; exact bne_self_eq_false _
   by_cases e2 : x.seq = (i : Int) + 1
   rotate_left
   ·have HF := aRp (H3.out e2)
    have b2 : (x.seq != (i : Int) + 1) = true := by rw [bne_iff_ne]; exact e2
    clear hok e1 e2; go_wp2
    go_ret
    exact ⟨by rw [HF.out]; rfl, HB.out.trans (cA.out.mono HB.out.size)⟩
   have b2 : (x.seq != (i : Int) + 1) = false := by rw [e2]; exact bne_self_eq_false _
   by_cases e3 : ps < x.stamp
   rotate_left
   ·have HF := aRp (H4.out (by first | exact e3 | exact Int.not_lt.1 e3))
    have b3 : decide (x.stamp ≤ ps) = true := decide_eq_true (by omega)
    clear hok e1 e2 e3; go_wp2
    go_ret
    exact ⟨by rw [HF.out]; rfl, HB.out.trans (cA.out.mono HB.out.size)⟩
   have b3 : decide (x.stamp ≤ ps) = false := decide_eq_false (by omega)
   have HF := aRp (HN.out (HY.out hok e1 e2 e3)); clear hok e1 e2 e3; go_wp2
   go_roundw
   case rel => exact ⟨i + 1, m + 1, by omega, by go_num, by go_num, by rw [HPs.out], by omega, (by have := HMi.out; show m + 1 = st + (i + 1); omega), HF, cA⟩
   case measure => simp [intOf]; omega
def aBj (a b : aA) : Bool := R6 a.dev a.seq a.stamp a.kind a.item a.qty a.level a.undos b.dev b.seq b.stamp b.kind b.item b.qty b.level b.undos
def mZ (a b : aA) : Bool := preB a.stamp a.dev a.seq b.stamp b.dev b.seq
def iZ (a b : aA) : aA := if aBj b a = true then a else b
structure cN where
 level : Int
 counted : aA
 placed : aA
def cN.zero : cN := ⟨0, aA.zero, aA.zero⟩
def xX (kind : Int) : Bool := decide (kind = 1 ∨ kind = 2)
def gN (kind : Int) : Bool := decide (kind = 1 ∨ kind = 4 ∨ kind = 5)
def eT (s : cN) (o : aA) : cN := ⟨max s.level o.level, if xX o.kind = true then iZ s.counted o else s.counted, if gN o.kind = true then iZ s.placed o else s.placed⟩
def cE (item : ByteArray) (bN : List aA) : cN := bN.foldl (fun s o => if o.item = item then eT s o else s) cN.zero
theorem wK (item : ByteArray) (bN : List aA) (o : aA) : cE item (bN ++ [o]) = if o.item = item then eT (cE item bN) o else cE item bN := by
 unfold cE
 rw [List.foldl_append]
 rfl
theorem aDZ (item : ByteArray) (bN : List aA) : 0 ≤ (cE item bN).level := by
 unfold cE
 have : ∀ (l : List aA) (s : cN), 0 ≤ s.level → 0 ≤ (l.foldl (fun s o => if o.item = item then eT s o else s) s).level := by
  intro l
  induction l with
  | nil => intro s h; exact h
  | cons o l ih =>
   intro s h
   rw [List.foldl_cons]; refine ih _ ?_
   split
   ·show 0 ≤ max _ _; omega
   ·exact h
 exact this bN cN.zero (Int.le_refl _)
def aL (item : ByteArray) (l : List aA) : Nat → Int
 | 0 => 0
 | k + 1 => if (l.getD k aA.zero).item = item ∧ (l.getD k aA.zero).undos % 2 = 0 then max (aL item l k) (l.getD k aA.zero).level else aL item l k
def bA (P : Int → Bool) (item : ByteArray) (l : List aA) : Nat → aA
 | 0 => aA.zero
 | k + 1 => if (P (l.getD k aA.zero).kind = true ∧ (l.getD k aA.zero).item = item ∧ (l.getD k aA.zero).undos % 2 = 0) ∧ ((bA P item l k).kind = 0 ∨ mZ (bA P item l k) (l.getD k aA.zero) = true) then l.getD k aA.zero else bA P item l k
theorem aAS (P : Int → Bool) (item : ByteArray) (l : List aA) : ∀ k, bA P item l k = aA.zero ∨ ∃ i, i < k ∧ bA P item l k = aB l i
 | 0 => .inl rfl
 | k + 1 => by
  rw [bA]
  split
  ·exact .inr ⟨k, by omega, rfl⟩
  ·rcases aAS P item l k with h | ⟨i, hi, h⟩
   ·exact .inl h
   ·exact .inr ⟨i, by omega, h⟩
theorem aGd {o : aA} (h : o.ok = true) : 1 ≤ o.kind ∧ o.kind ≤ 5 := by
 unfold aA.ok dP aAl at h
 simp only [Bool.and_eq_true] at h
 have := gM.1 h.2.1
 exact this
theorem aI6 : aA.zero.ok = false := by
 rcases h : aA.zero.ok with _ | _
 ·rfl
 ·have := aGd h
  have e : aA.zero.kind = 0 := rfl; omega
theorem aNR {a b : aA} (ha : a.ok = true) (hb : b.ok = true) : aBj a b = mZ a b := by
 unfold aBj R6
 unfold aA.ok at ha hb
 rw [ha, hb]
 rfl
theorem aMs {a b : aA} (hb : b.ok = false) : aBj a b = false := by
 unfold aBj R6
 unfold aA.ok at hb
 rw [hb]
 simp
theorem aJf {a b : aA} (h : a.dev ≠ b.dev ∨ a.seq ≠ b.seq) : mZ a b = !mZ b a := by
 unfold mZ preB
 rcases Int.lt_trichotomy a.stamp b.stamp with h1 | h1 | h1 <;> rcases Int.lt_trichotomy a.dev b.dev with h2 | h2 | h2 <;> rcases Int.lt_trichotomy a.seq b.seq with h3 | h3 | h3 <;> (rw [Bool.eq_iff_iff]; simp; omega)
theorem aBN {xs : List Int} {l : List aA} (hc : aD xs l = true) (P : Int → Bool) (item : ByteArray) {k : Nat} (hk : k < l.length) :
  iZ (bA P item l k) (l.getD k aA.zero) = if (bA P item l k).kind = 0 ∨ mZ (bA P item l k) (l.getD k aA.zero) = true then l.getD k aA.zero else bA P item l k := by
 obtain ⟨_, _, _, _, _, hok, _, _⟩ := fU hc hk
 unfold iZ
 rcases aAS P item l k with h | ⟨i, hi, h⟩
 ·rw [h, aMs aI6, if_neg (by simp), if_pos (.inl rfl)]
 ·obtain ⟨_, _, _, _, _, aNp, _, _⟩ := fU hc (i := i) (by omega)
  rw [h]; have hn : (aB l i).kind ≠ 0 := by have := aGd aNp; omega
  have bI : (aB l i).dev ≠ (l.getD k aA.zero).dev ∨ (aB l i).seq ≠ (l.getD k aA.zero).seq := by
   rcases Classical.em ((aB l i).dev = (l.getD k aA.zero).dev) with h1 | h1
   ·right; intro h2
    have := aKp hc (i := i) (j := k) (by omega) hk h1 h2
    omega
   ·exact .inl h1
  have hb : aBj (l.getD k aA.zero) (aB l i) = mZ (l.getD k aA.zero) (aB l i) := aNR hok aNp; rw [hb, aJf bI]; cases mZ (l.getD k aA.zero) (aB l i)
  ·rw [if_neg (by simp), if_pos (.inr rfl)]
  ·rw [if_pos rfl, if_neg (by simp [hn])]
theorem A0 {xs : List Int} {l : List aA} (hc : aD xs l = true) (item : ByteArray) : ∀ k, k ≤ l.length → cE item (iC l k) = ⟨aL item l k, bA xX item l k, bA gN item l k⟩
 | 0, _ => rfl
 | k + 1, hk => by
  have nX : k < l.length := hk; have ih := A0 hc item k (by omega)
  obtain ⟨_, _, _, _, _, hok, _, _⟩ := fU hc nX; have hl := aCy hok; have e : aB l k = l.getD k aA.zero := rfl; rw [e] at hl
  by_cases hu : (l.getD k aA.zero).undos % 2 = 0
  ·rw [P8 nX (by rw [hl, decide_eq_true hu]), wK]
   by_cases hi : (l.getD k aA.zero).item = item
   ·rw [if_pos hi, ih, aL, if_pos ⟨hi, hu⟩, bA, bA]
    unfold eT; simp only []
    congr 1
    ·cases hP : xX (l.getD k aA.zero).kind
     ·rw [if_neg (by simp), if_neg (by simp)]
     ·rw [if_pos rfl, aBN hc xX item nX]
      simp only [hi, hu, true_and, and_self]
    ·cases hP : gN (l.getD k aA.zero).kind
     ·rw [if_neg (by simp), if_neg (by simp)]
     ·rw [if_pos rfl, aBN hc gN item nX]
      simp only [hi, hu, true_and, and_self]
   ·rw [if_neg hi, ih, aL, if_neg (fun h => hi h.1), bA, if_neg (fun h => hi h.1.2.1), bA, if_neg (fun h => hi h.1.2.1)]
  ·rw [j1 nX (by rw [hl, decide_eq_false hu]), ih, aL, if_neg (fun h => hu h.2), bA, if_neg (fun h => hu h.1.2.2), bA, if_neg (fun h => hu h.1.2.2)]
theorem dI {o : aA} (h : o.ok = true) : 1 ≤ o.seq ∧ o.seq ≤ 40 ∧ 1 ≤ o.stamp ∧ o.stamp ≤ 100000 ∧ o.item.size ≤ 8 ∧ 0 ≤ o.undos ∧ o.undos ≤ 50 ∧ 0 ≤ o.level ∧ o.level ≤ 100 := by
 have h' : dP o.dev o.seq o.stamp o.kind o.item o.qty o.level o.undos = true := h
 unfold dP rT aAl at h'
 simp only [Bool.and_eq_true] at h'
 obtain ⟨⟨_, hs, ht, hi, hu⟩, _, _, hl⟩ := h'
 unfold cS at hs ht hu
 have hs := of_decide_eq_true hs
 have ht := of_decide_eq_true ht
 have hu := of_decide_eq_true hu
 unfold gK at hi
 rw [Bool.and_eq_true] at hi
 have hi := of_decide_eq_true hi.1
 have hlv : 0 ≤ o.level ∧ o.level ≤ 100 := by
  unfold lB at hl
  split at hl
  ·rw [Bool.and_eq_true] at hl
   have := of_decide_eq_true (show decide (1 ≤ o.level ∧ o.level ≤ 100) = true from hl.1); omega
  ·split at hl
   ·rw [Bool.and_eq_true] at hl
    have := of_decide_eq_true (show decide (2 ≤ o.level ∧ o.level ≤ 100) = true from hl.1); omega
   ·have := of_decide_eq_true hl
    omega
 exact ⟨hs.1, hs.2, ht.1, ht.2, hi.2, hu.1, hu.2, hlv.1, hlv.2⟩
theorem fI {xs : List Int} {l : List aA} (h : aD xs l = true) {i : Nat} (hi : i < l.length) : (aB l i).ok = true := by
 obtain ⟨_, _, _, _, _, hok, _⟩ := fU h hi
 exact hok
theorem eP {xs : List Int} {l : List aA} (h : aD xs l = true) : xs.length = 4 ∧ ∀ d, d < 4 → 0 ≤ xs.getD d 0 ∧ xs.getD d 0 ≤ 40 := by
 have hv : cL xs = true := by
  cases e : cL xs
  ·rw [aBf e] at h; cases h
  ·rfl
 unfold cL at hv
 rw [Bool.and_eq_true] at hv
 have hl := of_decide_eq_true hv.2
 refine ⟨hl, fun d hd => ?_⟩
 have hm : xs.getD d 0 ∈ xs := by rw [List.getD_eq_getElem?_getD, List.getElem?_eq_getElem (by omega)]; exact List.getElem_mem _
 have := List.all_eq_true.1 hv.1 _ hm
 exact Q4 this
theorem eF {xs : List Int} {l : List aA} (h : aD xs l = true) : l.length ≤ 160 := by
 have hv := (eP h).2
 unfold aD at h
 rw [Bool.and_eq_true, Bool.and_eq_true] at h
 have hs := of_decide_eq_true h.2.2
 have h0 := hv 0 (by omega)
 have h1 := hv 1 (by omega)
 have h2 := hv 2 (by omega)
 have h3 := hv 3 (by omega)
 have : aP xs 4 = (((0 + (xs.getD 0 0).toNat) + (xs.getD 1 0).toNat) + (xs.getD 2 0).toNat) + (xs.getD 3 0).toNat := rfl
 omega
theorem zO {xs : List Int} {l : List aA} (h : aD xs l = true) (item : ByteArray) : ∀ k, k ≤ l.length → aL item l k ≤ 100
 | 0, _ => by show (0 : Int) ≤ 100; omega
 | k + 1, hk => by
  have ih := zO h item k (by omega)
  have hb := dI (fI h (i := k) (by omega))
  have e : l.getD k aA.zero = aB l k := rfl; rw [aL, e]
  split
  ·omega
  ·exact ih
end Go.Proofs.YthkagbnpcjidfaaGreatDoor
