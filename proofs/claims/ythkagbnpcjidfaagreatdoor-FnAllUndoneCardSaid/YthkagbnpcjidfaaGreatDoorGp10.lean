/- Walks and mathematics that several claims share, part 10. -/
import Derived.Test.YthkagbnpcjidfaaGreatDoorGp7
import Derived.Test.YthkagbnpcjidfaaGreatDoorGp9
import Derived.Deep.Cut
import Derived.Deep.RegionHeld3
namespace Go.Proofs.YthkagbnpcjidfaaGreatDoor
set_option maxRecDepth 100000
open Go.RowKit
set_option linter.unusedVariables false
set_option linter.unusedSimpArgs false
def aL (xs : List Int) : Nat → Nat
 | 0 => 0
 | d + 1 => aL xs d + (xs.getD d 0).toNat
def iF (xs : List Int) (l : List aA) (d : Nat) : Bool := decide (aL xs (d + 1) ≤ l.length) && kR l d (aL xs d) (xs.getD d 0).toNat
def aD (xs : List Int) (l : List aA) : Bool := cG xs && ((List.range 4).all (iF xs l) && decide (aL xs 4 = l.length))
theorem s8 {xs : List Int} {l : List aA} (h : cG xs = false) : aD xs l = false := by unfold aD; rw [h]; rfl
theorem aDg {xs : List Int} {l : List aA} {d : Nat} (hd : d < 4) (h : iF xs l d = false) : aD xs l = false := by
 have e : (List.range 4).all (iF xs l) = false := by
  rw [List.all_eq_false]; exact ⟨d, by simpa using hd, by simp [h]⟩
 unfold aD
 rw [e]
 simp
theorem s9 {xs : List Int} {l : List aA} (h : cG xs = true) (hd : ∀ d, d < 4 → iF xs l d = true) : aD xs l = decide (aL xs 4 = l.length) := by
 have e : (List.range 4).all (iF xs l) = true := by
  rw [List.all_eq_true]
  intro d hm
  exact hd d (by simpa using hm)
 unfold aD
 rw [h, e]
 rfl
theorem eM {xs : List Int} (h : cG xs = true) {d : Nat} (hd : d < 4) : 0 ≤ xs.getD d 0 ∧ xs.getD d 0 ≤ 40 ∧ xs.length = 4 := by
 unfold cG at h
 simp only [Bool.and_eq_true, decide_eq_true_eq, List.all_eq_true] at h
 obtain ⟨h1, h2⟩ := h
 have hm : xs.getD d 0 ∈ xs := by
  rw [List.getD_eq_getElem?_getD, List.getElem?_eq_getElem (by omega)]
  exact List.getElem_mem _
 have := I8 (h1 _ hm)
 exact ⟨this.1, this.2, h2⟩
theorem aAG {l : List aA} {st c i : Nat} (hi : i < c) : aB ((l.drop st).take c) i = aB l (st + i) := by
 unfold aB
 rw [List.getD_eq_getElem?_getD, List.getElem?_take_of_lt hi, List.getElem?_drop, List.getD_eq_getElem?_getD]
theorem aJL {l : List aA} {dev st c : Nat} : kR ((l.drop st).take c) dev 0 c = kR l dev st c := by
 unfold kR
 rw [Bool.eq_iff_iff, List.all_eq_true, List.all_eq_true]
 have key : ∀ i, i < c → jT ((l.drop st).take c) dev 0 i = jT l dev st i := fun i hi => by
  have e1 : aB ((l.drop st).take c) (0 + i) = aB l (st + i) := by rw [Nat.zero_add]; exact aAG hi
  have e2 : dJ ((l.drop st).take c) 0 i = dJ l st i := by
   unfold dJ
   split
   ·rfl
   ·have e : 0 + i - 1 = i - 1 := by omega
    have e' : st + i - 1 = st + (i - 1) := by omega
    rw [e, e', aAG (by omega)]
  unfold jT; rw [e1, e2]
 constructor
 ·intro h i hi
  rw [← key i (by simpa using hi)]
  exact h i hi
 ·intro h i hi
  rw [key i (by simpa using hi)]
  exact h i hi
theorem bK.take {w : World} {B : Nat} {a : Option Addr} {n : Nat} {l : List aA} (h : bK w B a n l) {c : Nat} (hc : c ≤ n) : bK w B a c (l.take c) :=
 ⟨by rw [List.length_take, h.1]; omega, fun i hi => by
  obtain ⟨b, off, e, hb, ho⟩ := h.2 i (by omega)
  have e2 : (l.take c).getD i aA.zero = l.getD i aA.zero := by rw [List.getD_eq_getElem?_getD, List.getElem?_take_of_lt hi, List.getD_eq_getElem?_getD]
  exact ⟨b, off, e, hb, by rw [e2]; exact ho⟩⟩
theorem bK.dropMap {w : World} {B : Nat} {a : Option Addr} {n : Nat} {l : List aA} (h : bK w B a n l) {c : Nat} (hc : c ≤ n) : bK w B (Option.map (fun x => x.add (c * 8)) a) (n - c) (l.drop c) :=
 ⟨by rw [List.length_drop, h.1], fun i hi => by
  obtain ⟨b, off, e, hb, ho⟩ := h.2 (c + i) (by omega)
  subst e; have e3 : (l.drop c).getD i aA.zero = l.getD (c + i) aA.zero := by rw [List.getD_eq_getElem?_getD, List.getElem?_drop, List.getD_eq_getElem?_getD]
  exact ⟨b, off + c * 8, by rw [Option.map_some, tQ], hb, by rw [e3, show off + c * 8 + i * 8 = off + (c + i) * 8 by omega]; exact ho⟩⟩
theorem P6 {w : World} {B : Nat} {a : Option Addr} {l : List aA} (h : l.length = 0) : bK w B a 0 l := ⟨h, fun i hi => by omega⟩
set_option maxHeartbeats 20000000 in
theorem iM (w : World) (B : Nat) (av ao : Option Addr) (nv cv no co : Nat) (xs : List Int) (l : List aA) (hx : Ints w B av nv xs) (h : bK w B ao no l) (hB : B ≤ w.heap.size) (hv : nv ≤ 1048576) (hc : no ≤ co) (cM : Fits no co) :
  Calls Tryz.prog 23 #[.agg #[.slice av nv cv, .slice ao no co]] w fun e w' => e = .returned (.bool (aD xs l)) ∧ Below w.heap.size w w' := by
 have tF : no ≤ 1048576 := cM.1
 have bC : Below w.heap.size w (w.alloc (.cells #[.slice av nv cv, .slice ao no co] 27)) := (Below.refl _ w).alloc aPw _
 have HV := aPu (hx.below bC hB)
 have HO := aPu (h.below bC hB)
 have HB := aPu bC
 have HX := aPu (bE (Below.refl _ (w.alloc (.cells #[.slice av nv cv, .slice ao no co] 27))))
 have HL := aPu h.1
 have cP : w.heap.size < (w.alloc (.cells #[.slice av nv cv, .slice ao no co] 27)).heap.size := by show _ < (w.heap.push _).size; simp
 clear hx h bC
 rcases hvk : cG xs with _ | _
 ·have HF := aPu (s8 (l := l) hvk)
  have HK := aPu hvk; clear hvk
  go_enter Tryz.func23, Tryz.ntmps23
  go_wp2_with fail
  refine (aBN _ B av nv cv xs HV.out hv).mono ?_
  rintro e w1 ⟨rfl, rfl⟩; rw [HK.out]; go_wp2
  go_ret
  exact ⟨by rw [HF.out]; rfl, HB.out⟩
 have HK := aPu hvk
 have h4 : nv = 4 := HV.out.1.symm.trans (eM hvk (d := 0) (by omega)).2.2
 subst h4
 have HAt := aPu (fun d (hd : d < 4) => eM hvk hd)
 have HCE := aPu (s9 (l := l) hvk)
 have HCD : Hid (∀ d, d < 4 → iF xs l d = false → aD xs l = false) := fun d hd h => aDg hd h
 clear hvk
 go_enter Tryz.func23, Tryz.ntmps23
 go_wp2_with fail
 generalize w.alloc (.cells #[.slice av 4 cv, .slice ao no co] 27) = w0 at HV HO HB HX cP ⊢
 refine (aBN _ B av 4 cv xs HV.out hv).mono ?_
 rintro e w1 ⟨rfl, rfl⟩
 rw [HK.out]
 obtain ⟨c0, c1⟩ := pair_cells HX.out
 go_wp2
 go_loopw [3, 15] (fun r i wr => ∃ (d rn rc : Nat) (ra : Option Addr), d ≤ 4 ∧ i = .int .i64 d ∧ r = .slice ra rn rc ∧ rn ≤ rc ∧ Hid (C3 rc) ∧ Hid (bK w0 B ra rn (l.drop (aL xs d)) ∧ aL xs d + rn = l.length ∧ ∀ d', d' < d → iF xs l d' = true) ∧ Hid (Below w0.heap.size w0 wr)) (fun _ i _ => 4 - (intOf i).toNat)
 case atStart => exact ⟨0, no, co, ao, by omega, rfl, rfl, hc, cM.2, ⟨HO.out, (by rw [HL.out]; simp [aL]), fun d' hd' => by omega⟩, Below.refl _ _⟩
 case round =>
  obtain ⟨d, rn, rc, ra, hd, rfl, rfl, yN, aNG, HR, cS⟩ := hrel
  by_cases aK : d < 4
  rotate_left
  ·obtain rfl : d = 4 := by omega
   have HF := aPu (HCE.out HR.out.2.2); have HS := aPu HR.out.2.1
   by_cases hz : rn = 0
   ·subst hz
    have HT : Hid (decide (aL xs 4 = l.length) = true) := decide_eq_true (by have := HS.out; omega)
    go_wp2
    go_ret
    exact ⟨by rw [HF.out, HT.out]; rfl, HB.out.trans (cS.out.mono HB.out.size)⟩
   ·have hzb : ((rn : Int) == 0) = false := by rw [beq_eq_false_iff_ne]; omega
    have HT : Hid (decide (aL xs 4 = l.length) = false) := decide_eq_false (by have := HS.out; omega)
    go_wp2
    go_ret
    exact ⟨by rw [HF.out, HT.out]; rfl, HB.out.trans (cS.out.mono HB.out.size)⟩
  obtain ⟨bv, ov, rfl, hbv, bX⟩ := HV.out.2 d aK; have aIk := (cS.out.cell (p := ⟨bv, ov + d, none⟩) (by show bv < w0.heap.size; omega)).trans bX
  obtain ⟨g1, g2, g3⟩ := HAt.out d aK; obtain ⟨c, uD⟩ := Int.eq_ofNat_of_zero_le g1; have bZ : Hid (aL xs (d + 1) = aL xs d + c) := by show aL xs (d + 1) = _; rw [aL, uD]; rfl
  have HDv : Hid (iF xs l d = (decide (aL xs (d + 1) ≤ l.length) && kR l d (aL xs d) c)) := by show iF xs l d = _; unfold iF; rw [uD]; rfl
  rw [uD] at aIk g2; clear bX uD g1 g3
  by_cases jN : c ≤ rn
  rotate_left
  ·have HF := aPu (HCD.out d aK (by rw [HDv.out, decide_eq_false (by have := bZ.out; have := HR.out.2.1; omega)]; rfl))
   have hgt : (rn : Int) < (c : Int) := by omega
   go_wp2
   go_ret
   exact ⟨by rw [HF.out]; rfl, HB.out.trans (cS.out.mono HB.out.size)⟩
  have hgt : ¬ (rn : Int) < (c : Int) := by omega
  have HOc := aPu ((HR.out.1.below cS.out (by omega)).take jN)
  go_wp2_with fail
  refine (aIw wr B ra c rc d _ HOc.out (by have := cS.out.size; omega) (by omega)).mono ?_
  rintro e w2 ⟨rfl, aG⟩; rw [aJL]; have bP := aPu (cS.out.trans (aG.mono cS.out.size)); clear aG HOc; rcases hrun : kR l d (aL xs d) c with _ | _
  ·have HF := aPu (HCD.out d aK (by rw [HDv.out, hrun, Bool.and_false]))
   clear hrun; go_wp2
   go_ret
   exact ⟨by rw [HF.out]; rfl, HB.out.trans (bP.out.mono HB.out.size)⟩
  have HDt : Hid (∀ d', d' < d + 1 → iF xs l d' = true) := fun d' hd' => by
   rcases Nat.lt_or_ge d' d with h1 | h1
   ·exact HR.out.2.2 d' h1
   ·obtain rfl : d' = d := by omega
    rw [HDv.out, hrun, decide_eq_true (by have := bZ.out; have := HR.out.2.1; omega)]
    rfl
  clear hrun HCD HDv cS; have HRl : Hid (aL xs (d + 1) + (rn - c) = l.length) := by have := bZ.out; have := HR.out.2.1; show _ = _; omega
  have HLd : Hid (l.drop (aL xs (d + 1)) = (l.drop (aL xs d)).drop c) := by show _ = _; rw [bZ.out, List.drop_drop]
  have HLl : Hid ((l.drop (aL xs (d + 1))).length = rn - c) := by show List.length _ = _; rw [List.length_drop]; have := HRl.out; omega
  have hci : (c : Int) ≤ (rn : Int) := by omega
  have aPg : (c : Int) ≤ (rc : Int) := by omega
  have aOP : (rn : Int) ≤ (rc : Int) := by omega
  by_cases nD : c = rc
  ·obtain rfl : rn = c := by omega
   have HO0 := aPu (fun a => P6 (w := w0) (B := B) (a := a) (show (l.drop (aL xs (d + 1))).length = 0 by rw [HLl.out]; omega))
   go_wp2
   exact ⟨⟨d + 1, 0, 0, ra, by omega, by go_num, rfl, Nat.le_refl _, Nat.zero_le _, ⟨HO0.out ra, (by have := HRl.out; omega), HDt.out⟩, bP⟩, by simp [intOf]; omega⟩
  ·have aPh : ¬ (rc : Int) = (c : Int) := by omega
   have HOd := aPu (HR.out.1.dropMap jN); rw [← HLd.out] at HOd; go_wp2
   exact ⟨⟨d + 1, rn - c, rc - c, _, by omega, by go_num, rfl, by omega, aNG.out.sub c, ⟨HOd.out, HRl.out, HDt.out⟩, bP⟩, by simp [intOf]; omega⟩
def aA.val (o : aA) : Value := .agg #[.int .i64 o.dev, .int .i64 o.seq, .int .i64 o.stamp, .int .i64 o.kind, .string o.item, .int .i64 o.qty, .int .i64 o.level, .int .i64 o.undos]
def aA.live (o : aA) : Bool := rH o.dev o.seq o.stamp o.kind o.item o.qty o.level o.undos
def hM (l : List aA) (k : Nat) : List aA := (l.take k).filter aA.live
theorem take_at {l : List aA} {k : Nat} (h : k < l.length) : l.take (k + 1) = l.take k ++ [l.getD k aA.zero] := by
 rw [List.take_succ_eq_append_getElem h, List.getD_eq_getElem?_getD, List.getElem?_eq_getElem h]
 rfl
theorem I1 {l : List aA} {k : Nat} (hk : k < l.length) (h : (l.getD k aA.zero).live = true) : hM l (k + 1) = hM l k ++ [l.getD k aA.zero] := by
 unfold hM
 rw [take_at hk, List.filter_append, List.filter_cons, if_pos h, List.filter_nil]
theorem Q7 {l : List aA} {k : Nat} (hk : k < l.length) (h : (l.getD k aA.zero).live = false) : hM l (k + 1) = hM l k := by
 unfold hM
 rw [take_at hk, List.filter_append, List.filter_cons, if_neg (by rw [h]; exact Bool.false_ne_true), List.filter_nil, List.append_nil]
theorem aAp (l : List aA) (k : Nat) : (hM l k).length ≤ k := by
 unfold hM
 exact Nat.le_trans (List.length_filter_le _ _) (List.length_take_le _ _)
theorem pV {xs : List Int} {l : List aA} (h : aD xs l = true) : cG xs = true ∧ (∀ d, d < 4 → iF xs l d = true) ∧ aL xs 4 = l.length := by
 unfold aD at h
 simp only [Bool.and_eq_true, decide_eq_true_eq, List.all_eq_true] at h
 exact ⟨h.1, fun d hd => h.2.1 d (by simpa using hd), h.2.2⟩
theorem aD8 {xs : List Int} {i : Nat} : ∀ d, i < aL xs d → ∃ e k, e < d ∧ k < (xs.getD e 0).toNat ∧ i = aL xs e + k
 | 0, h => by simp [aL] at h
 | d + 1, h => by
  rcases Nat.lt_or_ge i (aL xs d) with h1 | h1
  ·obtain ⟨e, k, he, hk, hi⟩ := aD8 d h1
   exact ⟨e, k, by omega, hk, hi⟩
  ·rw [aL] at h
   exact ⟨d, i - aL xs d, by omega, by omega, by omega⟩
theorem fG {xs : List Int} {l : List aA} (h : aD xs l = true) {i : Nat} (hi : i < l.length) :
  ∃ d k, d < 4 ∧ k < (xs.getD d 0).toNat ∧ i = aL xs d + k ∧ (aB l i).ok = true ∧ (aB l i).dev = (d : Int) ∧ (aB l i).seq = (k : Int) + 1 := by
 obtain ⟨_, hd, hs⟩ := pV h
 obtain ⟨d, k, h1, h2, rfl⟩ := aD8 (xs := xs) 4 (by rw [hs]; exact hi)
 have hb := hd d h1
 unfold iF at hb
 simp only [Bool.and_eq_true, decide_eq_true_eq] at hb
 have hr := hb.2
 unfold kR at hr
 rw [List.all_eq_true] at hr
 have hf := hr k (by simpa using h2)
 unfold jT at hf
 simp only [Bool.and_eq_true, decide_eq_true_eq] at hf
 exact ⟨d, k, h1, h2, rfl, hf.1, hf.2.1, hf.2.2.1⟩
theorem aIG {xs : List Int} {l : List aA} (h : aD xs l = true) {i j : Nat} (hi : i < l.length) (hj : j < l.length) (hd : (aB l i).dev = (aB l j).dev) (hs : (aB l i).seq = (aB l j).seq) : i = j := by
 obtain ⟨d, k, _, _, rfl, _, h1, h2⟩ := fG h hi
 obtain ⟨e, m, _, _, rfl, _, g1, g2⟩ := fG h hj
 obtain rfl : d = e := by have := h1.symm.trans (hd.trans g1); omega
 have := h2.symm.trans (hs.trans g2)
 omega
theorem E5 {o : aA} (h : o.ok = true) : o.live = decide (o.undos % 2 = 0) := by
 unfold aA.live rH
 unfold aA.ok at h
 rw [h]
 rfl
def lastOf (dev : Int) (bI : List aA) : Int := bI.foldl (fun n o => if o.dev = dev then max n o.seq else n) 0
theorem Y8 (dev : Int) (bI : List aA) (o : aA) : lastOf dev (bI ++ [o]) = if o.dev = dev then max (lastOf dev bI) o.seq else lastOf dev bI := by
 unfold lastOf
 rw [List.foldl_append]
 rfl
theorem B3 {xs : List Int} {l : List aA} (h : aD xs l = true) {i j : Nat} (hij : i < j) (hj : j < l.length) (hd : (aB l i).dev = (aB l j).dev) : (aB l i).seq < (aB l j).seq := by
 obtain ⟨d, k, _, _, hi, _, h1, h2⟩ := fG h (i := i) (by omega)
 obtain ⟨e, m, _, _, hj', _, g1, g2⟩ := fG h hj
 obtain rfl : d = e := by have := h1.symm.trans (hd.trans g1); omega
 rw [h2, g2]
 omega
def bV (dev : Int) (l : List aA) : Nat → Int
 | 0 => 0
 | k + 1 => if (l.getD k aA.zero).dev = dev ∧ (l.getD k aA.zero).undos % 2 = 0 then (l.getD k aA.zero).seq else bV dev l k
theorem rT (dev : Int) (l : List aA) : ∀ k, bV dev l k = 0 ∨ ∃ i, i < k ∧ (aB l i).dev = dev ∧ bV dev l k = (aB l i).seq
 | 0 => .inl rfl
 | k + 1 => by
  rw [bV]
  split
  ·rename_i h
   exact .inr ⟨k, by omega, h.1, rfl⟩
  ·rcases rT dev l k with h | ⟨i, hi, h⟩
   ·exact .inl h
   ·exact .inr ⟨i, by omega, h⟩
theorem aBq {xs : List Int} {l : List aA} (hc : aD xs l = true) (dev : Int) : ∀ k, k ≤ l.length → lastOf dev (hM l k) = bV dev l k
 | 0, _ => rfl
 | k + 1, hk => by
  have mY : k < l.length := hk; have ih := aBq hc dev k (by omega)
  obtain ⟨d, m, _, _, _, hok, gJ, hsq⟩ := fG hc mY; have hl := E5 hok; have e : aB l k = l.getD k aA.zero := rfl; rw [e] at hl gJ hsq
  by_cases hu : (l.getD k aA.zero).undos % 2 = 0
  ·rw [I1 mY (by rw [hl, decide_eq_true hu]), Y8, ih, bV]
   by_cases hd : (l.getD k aA.zero).dev = dev
   ·rw [if_pos hd, if_pos ⟨hd, hu⟩]
    rcases rT dev l k with h | ⟨i, hi, h1, h2⟩
    ·rw [h]; omega
    ·have := B3 hc hi mY (h1.trans hd.symm)
     rw [e] at this; rw [h2]; omega
   ·rw [if_neg hd, if_neg (fun h => hd h.1)]
  ·rw [Q7 mY (by rw [hl, decide_eq_false hu]), ih, bV, if_neg (fun h => hu h.2)]
theorem Y4 {xs : List Int} {l : List aA} (hc : aD xs l = true) {dev : Int} (hd : ¬ (0 ≤ dev ∧ dev ≤ 3)) : ∀ k, k ≤ l.length → bV dev l k = 0
 | 0, _ => rfl
 | k + 1, hk => by
  obtain ⟨d, m, h4, _, _, _, gJ, _⟩ := fG hc (i := k) hk; have e : aB l k = l.getD k aA.zero := rfl; rw [e] at gJ; rw [bV, if_neg (fun h => hd (by rw [← h.1, gJ]; omega)), Y4 hc hd k (by omega)]
theorem aD7 {xs : List Int} {l : List aA} (hc : aD xs l = true) (d : Nat) (k : Nat) (hk : k ≤ l.length) : 0 ≤ bV (d : Int) l k ∧ bV (d : Int) l k ≤ 40 := by
 rcases rT (d : Int) l k with h | ⟨i, hi, h1, h2⟩
 ·rw [h]; omega
 ·obtain ⟨e, m, he, hm, _, _, gJ, hsq⟩ := fG hc (i := i) (by omega)
  have := (eM (pV hc).1 he).2.1; rw [h2, hsq]; omega
theorem aG9 {xs : List Int} {l : List aA} (hc : aD xs l = true) {d : Nat} (hd : d < 4) {n : Int} (hn : 1 ≤ n) : n ≤ xs.getD d 0 ↔ ∃ i, i < l.length ∧ (aB l i).dev = (d : Int) ∧ (aB l i).seq = n := by
 obtain ⟨hv, gJ, hs⟩ := pV hc
 constructor
 ·intro h
  have hb := gJ d hd; unfold iF at hb; simp only [Bool.and_eq_true, decide_eq_true_eq] at hb
  have hx := eM hv hd; have hi : aL xs d + (n.toNat - 1) < l.length := by have := hb.1; rw [aL] at this; omega
  refine ⟨aL xs d + (n.toNat - 1), hi, ?_⟩
  have hr := hb.2; unfold kR at hr; rw [List.all_eq_true] at hr; have hf := hr (n.toNat - 1) (by rw [List.mem_range]; omega)
  unfold jT at hf; simp only [Bool.and_eq_true, decide_eq_true_eq] at hf
  exact ⟨hf.2.1, by rw [hf.2.2.1]; omega⟩
 ·rintro ⟨i, hi, h1, h2⟩
  obtain ⟨e, m, he, hm, _, _, g1, g2⟩ := fG hc hi; obtain rfl : e = d := by have := g1.symm.trans h1; omega
  rw [← h2, g2]; omega
def cY (l : List aA) : Nat → Int
 | 0 => 0
 | k + 1 => max (cY l k) (aB l k).stamp
theorem oR (l : List aA) : ∀ k, 0 ≤ cY l k
 | 0 => Int.le_refl _
 | k + 1 => by have := oR l k; rw [cY]; omega
theorem sQ {l : List aA} {N : Int} (hN : 0 ≤ N) (h : ∀ i, i < l.length → (aB l i).stamp ≤ N) : ∀ k, k ≤ l.length → cY l k ≤ N
 | 0, _ => hN
 | k + 1, hk => by
  have := sQ hN h k (by omega)
  have := h k (by omega)
  rw [cY]; omega
def putAt (dev : Int) (l : List aA) : Nat := (l.takeWhile fun x => decide (x.dev ≤ dev)).length
theorem oE (dev : Int) (l : List aA) : putAt dev l ≤ l.length := by unfold putAt; exact (List.takeWhile_sublist _).length_le
theorem m7 {dev : Int} : ∀ {l : List aA} {i : Nat}, i < putAt dev l → (aB l i).dev ≤ dev
 | [], i, h => absurd h (by simp [putAt])
 | x :: l, i, h => by
  by_cases hx : x.dev ≤ dev
  ·match i with
   | 0 => exact hx
   | j + 1 =>
    have : j < putAt dev l := by
     unfold putAt at h ⊢; rw [List.takeWhile_cons, if_pos (by simpa using hx), List.length_cons] at h
     omega
    have h2 : (aB l j).dev ≤ dev := m7 this; exact h2
  ·unfold putAt at h
   rw [List.takeWhile_cons, if_neg (by simpa using hx)] at h
   simp at h
theorem P4 {dev : Int} : ∀ {l : List aA}, putAt dev l < l.length → ¬ (aB l (putAt dev l)).dev ≤ dev
 | [], h => absurd h (by simp)
 | x :: l, h => by
  by_cases hx : x.dev ≤ dev
  ·have e : putAt dev (x :: l) = putAt dev l + 1 := by
    unfold putAt; rw [List.takeWhile_cons, if_pos (by simpa using hx), List.length_cons]
   rw [e] at h ⊢; have h2 : ¬ (aB l (putAt dev l)).dev ≤ dev := P4 (l := l) (by simpa using h)
   exact h2
  ·have e : putAt dev (x :: l) = 0 := by
    unfold putAt; rw [List.takeWhile_cons, if_neg (by simpa using hx)]
    rfl
   rw [e]; exact hx
def aN (xs : List Int) (l : List aA) (d : Nat) (o : aA) : aA := { o with dev := (d : Int), seq := xs.getD d 0 + 1, stamp := cY l l.length + 1 }
def dF (xs : List Int) (d : Nat) : List Int := xs.set d (xs.getD d 0 + 1)
def bN (l : List aA) (d : Nat) (o : aA) : List aA := l.take (putAt (d : Int) l) ++ [o] ++ l.drop (putAt (d : Int) l)
theorem rL (l : List aA) (d : Nat) (o : aA) : (bN l d o).length = l.length + 1 := by
 unfold bN
 have := oE (d : Int) l
 simp
 omega
def eV (o : aA) : aA := { o with undos := o.undos + 1 }
def dI (l : List aA) (i : Nat) : List aA := l.set i (eV (aB l i))
theorem jY (l : List aA) (i : Nat) : (dI l i).length = l.length := by unfold dI; simp
theorem gZ {α : Type} {l : List α} {i j : Nat} {x d : α} (hi : i < l.length) : (l.set i x).getD j d = if i = j then x else l.getD j d := by
 rw [List.getD_eq_getElem?_getD, List.getElem?_set]
 by_cases e : i = j
 ·rw [if_pos e, if_pos e, if_pos hi]; rfl
 ·rw [if_neg e, if_neg e, List.getD_eq_getElem?_getD]
set_option maxHeartbeats 20000000 in
theorem sR (w : World) (B : Nat) (av ao : Option Addr) (nv cv no co : Nat) (xs : List Int) (l : List aA) (hx : Ints w B av nv xs) (h : bK w B ao no l) (hB : B ≤ w.heap.size) (hv : nv ≤ 1048576) (hn : no ≤ 1048576) (hm : ∀ i, i < no → (aB l i).item.size ≤ 1048576) :
  Calls Tryz.prog 36 #[.agg #[.slice av nv cv, .slice ao no co]] w fun e w' => e = .returned (.bool (aD xs l)) ∧ Below w.heap.size w w' := by
 have bC : Below w.heap.size w (w.alloc (.cells #[.slice av nv cv, .slice ao no co] 27)) := (Below.refl _ w).alloc aPw _
 have HV := aPu (hx.below bC hB)
 have HO := aPu (h.below bC hB)
 have HB := aPu bC
 have HX := aPu (bE (Below.refl _ (w.alloc (.cells #[.slice av nv cv, .slice ao no co] 27))))
 have HL := aPu h.1
 have HM := aPu hm
 have cP : w.heap.size < (w.alloc (.cells #[.slice av nv cv, .slice ao no co] 27)).heap.size := by show _ < (w.heap.push _).size; simp
 clear hx h bC hm
 rcases hvk : cG xs with _ | _
 ·have HF := aPu (s8 (l := l) hvk)
  have HK := aPu hvk; clear hvk
  go_enter Tryz.func36, Tryz.ntmps36
  go_wp2_with fail
  refine (pC _ B av nv cv xs HV.out hv).mono ?_
  rintro e w1 ⟨rfl, rfl⟩; rw [HK.out]; go_wp2
  go_ret
  exact ⟨by rw [HF.out]; rfl, HB.out⟩
 have HK := aPu hvk
 have h4 : nv = 4 := HV.out.1.symm.trans (eM hvk (d := 0) (by omega)).2.2
 subst h4
 have HAt := aPu (fun d (hd : d < 4) => eM hvk hd)
 have HCE := aPu (s9 (l := l) hvk)
 have HCD : Hid (∀ d, d < 4 → iF xs l d = false → aD xs l = false) := fun d hd h => aDg hd h
 clear hvk
 go_enter Tryz.func36, Tryz.ntmps36
 go_wp2_with fail
 generalize w.alloc (.cells #[.slice av 4 cv, .slice ao no co] 27) = w0 at HV HO HB HX cP ⊢
 refine (pC _ B av 4 cv xs HV.out hv).mono ?_
 rintro e w1 ⟨rfl, rfl⟩
 rw [HK.out]
 go_wp2
 go_loopw [3, 4] (fun t i wr => ∃ (d at' : Nat), d ≤ 4 ∧ i = .int .i64 d ∧ t = .int .i64 at' ∧ at' ≤ no ∧ Hid (at' = aL xs d ∧ ∀ d', d' < d → iF xs l d' = true) ∧ Hid (Below w0.heap.size w0 wr)) (fun _ i _ => 4 - (intOf i).toNat)
 case atStart => exact ⟨0, 0, by omega, rfl, rfl, Nat.zero_le _, ⟨rfl, fun d' hd' => by omega⟩, Below.refl _ _⟩
 case round =>
  obtain ⟨d, st, hd, rfl, rfl, eB, HR, cS⟩ := hrel; obtain ⟨c0, c1⟩ := pair_cells ((cS.out.block _ (by omega)).trans HX.out)
  by_cases aK : d < 4
  rotate_left
  ·obtain rfl : d = 4 := by omega
   have HF := aPu (HCE.out HR.out.2)
   by_cases hz : st = no
   ·have hzb : ((st : Int) == (no : Int)) = true := by rw [hz]; exact beq_self_eq_true _
    have HT : Hid (decide (aL xs 4 = l.length) = true) := decide_eq_true (by rw [← HR.out.1, HL.out]; exact hz)
    clear hz; go_wp2
    go_ret
    exact ⟨by rw [HF.out, HT.out]; first | rfl | (simp [*]), HB.out.trans (cS.out.mono HB.out.size)⟩
   ·have hzb : ((st : Int) == (no : Int)) = false := by rw [beq_eq_false_iff_ne]; omega
    have HT : Hid (decide (aL xs 4 = l.length) = false) := decide_eq_false (by rw [← HR.out.1, HL.out]; exact hz)
    clear hz; go_wp2
    go_ret
    exact ⟨by rw [HF.out, HT.out]; first | rfl | (simp [*]), HB.out.trans (cS.out.mono HB.out.size)⟩
  obtain ⟨bv, ov, rfl, hbv, bX⟩ := HV.out.2 d aK; obtain ⟨g1, g2, g3⟩ := HAt.out d aK; obtain ⟨c, uD⟩ := Int.eq_ofNat_of_zero_le g1; have bZ : Hid (aL xs (d + 1) = st + c) := by show aL xs (d + 1) = _; rw [aL, uD, ← HR.out.1]; rfl
  have HDv : Hid (iF xs l d = (decide (aL xs (d + 1) ≤ l.length) && kR l d st c)) := by show iF xs l d = _; unfold iF; rw [uD, ← HR.out.1]; rfl
  rw [uD] at bX g2; clear uD g1 g3 c0 c1; have aPj : c ≤ 40 := by omega
  clear g2; have HCV := aPu bX; have yQ : decide ((d : Int) < 4) = true := decide_eq_true (by omega)
  clear bX; go_wp2
  go_loopw [3, 5, 6] (fun t s q wi => ∃ (i m : Nat), i ≤ c ∧ q = .int .i64 ((i : Int) + 1) ∧ t = .int .i64 (m : Int) ∧ s = .int .i64 (dJ l st i) ∧ m ≤ no ∧ Hid (m = st + i) ∧ Hid (kR l d st i = true) ∧ Hid (Below w0.heap.size w0 wi)) (fun _ _ q _ => c + 1 - (intOf q).toNat)
  case atStart => exact ⟨0, st, Nat.zero_le _, rfl, rfl, rfl, eB, rfl, rfl, cS⟩
  case round =>
   obtain ⟨i, m, hi, rfl, rfl, rfl, hin, HMi, aMf, HBi⟩ := hrel; obtain ⟨c0, c1⟩ := pair_cells ((HBi.out.block _ (by omega)).trans HX.out)
   have cv := (HBi.out.cell (p := ⟨bv, ov + d, none⟩) (by show bv < w0.heap.size; omega)).trans HCV.out
   by_cases hic : i < c
   rotate_left
   ·obtain rfl : i = c := by omega
    have wP : ¬ ((i : Int) + 1 ≤ (i : Int)) := by omega
    have HDt : Hid (∀ d', d' < d + 1 → iF xs l d' = true) := fun d' hd' => by
     rcases Nat.lt_or_ge d' d with h1 | h1
     ·exact HR.out.2 d' h1
     ·obtain rfl : d' = d := by omega
      rw [HDv.out, aMf.out, decide_eq_true (by rw [bZ.out, HL.out]; have := HMi.out; omega)]
      rfl
    go_wp2
    exact ⟨⟨d + 1, m, by omega, by go_num, rfl, hin, ⟨(by rw [bZ.out]; exact HMi.out), HDt.out⟩, HBi⟩, by simp [intOf]; omega⟩
   have wP : ((i : Int) + 1 ≤ (c : Int)) := by omega
   by_cases hmn : m = no
   ·have aE : ((m : Int) == (no : Int)) = true := by rw [hmn]; exact beq_self_eq_true _
    have HF := aPu (HCD.out d aK (by rw [HDv.out, decide_eq_false (by rw [bZ.out, HL.out]; have := HMi.out; omega)]; rfl))
    clear hmn; go_wp2
    go_ret
    exact ⟨by rw [HF.out]; rfl, HB.out.trans (HBi.out.mono HB.out.size)⟩
   have aE : ((m : Int) == (no : Int)) = false := by rw [beq_eq_false_iff_ne]; omega
   have aLo : m < no := by omega
   have hmi : (m : Int) < (no : Int) := by omega
   have uC : (0 : Int) ≤ (m : Int) := by omega
   clear hmn; obtain ⟨b, off, rfl, hb, ho⟩ := HO.out.2 m aLo; have cI := aPu ho; have G4 := aPu (HM.out m aLo); have HA : Hid (l.getD m aA.zero = aB l (st + i)) := by show _ = _; rw [HMi.out]; rfl
   have HA2 : Hid (aB l m = aB l (st + i)) := by show _ = _; rw [HMi.out]
   rw [HA.out] at cI; rw [HA2.out] at G4; clear ho HA HA2; have HPs := aPu (vF l st i); have HY := aPu (@sE l d st i); have HZ : Hid (∀ b, jT l d st i = b → b = false → aD xs l = false) := fun b hb T1 => HCD.out d aK (by rw [HDv.out, xW hic (hb.trans T1), Bool.and_false])
   have H1 := aPu (fun h => HZ.out _ (@aGV l d st i h) rfl)
   have H2 := aPu (fun h => HZ.out _ (@aEw l d st i h) rfl)
   have H3 := aPu (fun h => HZ.out _ (@aEv l d st i h) rfl)
   have H4 := aPu (fun h => HZ.out _ (@aBO l d st i h) rfl)
   have HN := aPu (fun h => aCp (dev := d) aMf.out h)
   clear HZ; generalize aB l (st + i) = x at HPs HY H1 H2 H3 H4 cI G4; generalize dJ l st i = ps at HY H4 ⊢; obtain ⟨d0, d1, d2, d3, d4, d5, d6, d7⟩ := cI.out.kept (HBi.out.block b (by omega))
   go_wp2_with fail
   refine (m0 x.dev x.seq x.stamp x.kind x.item x.qty x.level x.undos _ G4.out).mono ?_
   rintro e w2 ⟨rfl, aG⟩; have bP := aPu (HBi.out.trans (aG.mono HBi.out.size)); clear aG c0 c1 cv d0 d1 d2 d3 d4 d5 d6 d7; obtain ⟨c0, c1⟩ := pair_cells ((bP.out.block _ (by omega)).trans HX.out)
   obtain ⟨d0, d1, d2, d3, d4, d5, d6, d7⟩ := cI.out.kept (bP.out.block b (by omega))
   rcases hok : dK x.dev x.seq x.stamp x.kind x.item x.qty x.level x.undos with _ | _
   ·have HF := aPu (H1.out hok)
    clear hok; go_wp2
    go_ret
    exact ⟨by rw [HF.out]; rfl, HB.out.trans (bP.out.mono HB.out.size)⟩
   by_cases e1 : x.dev = (d : Int)
   rotate_left
   ·have HF := aPu (H2.out e1)
    have b1 : (x.dev != (d : Int)) = true := by rw [bne_iff_ne]; exact e1
    clear hok e1; go_wp2
    go_ret
    exact ⟨by rw [HF.out]; rfl, HB.out.trans (bP.out.mono HB.out.size)⟩
   have b1 : (x.dev != (d : Int)) = false := by rw [e1]; exact bne_self_eq_false _
   by_cases e2 : x.seq = (i : Int) + 1
   rotate_left
   ·have HF := aPu (H3.out e2)
    have b2 : (x.seq != (i : Int) + 1) = true := by rw [bne_iff_ne]; exact e2
    clear hok e1 e2; go_wp2
    go_ret
    exact ⟨by rw [HF.out]; rfl, HB.out.trans (bP.out.mono HB.out.size)⟩
   have b2 : (x.seq != (i : Int) + 1) = false := by rw [e2]; exact bne_self_eq_false _
   by_cases e3 : ps < x.stamp
   rotate_left
   ·have HF := aPu (H4.out (by first | exact e3 | exact Int.not_lt.1 e3))
    have b3 : decide (x.stamp ≤ ps) = true := decide_eq_true (by omega)
    clear hok e1 e2 e3; go_wp2
    go_ret
    exact ⟨by rw [HF.out]; rfl, HB.out.trans (bP.out.mono HB.out.size)⟩
   have b3 : decide (x.stamp ≤ ps) = false := decide_eq_false (by omega)
   have HF := aPu (HN.out (HY.out hok e1 e2 e3)); clear hok e1 e2 e3; go_wp2
   go_roundw
   case rel => exact ⟨i + 1, m + 1, by omega, by go_num, by go_num, by rw [HPs.out], by omega, (by have := HMi.out; show m + 1 = st + (i + 1); omega), HF, bP⟩
   case measure => simp [intOf]; omega
def t8 (a b : aA) : Bool := K3 a.dev a.seq a.stamp a.kind a.item a.qty a.level a.undos b.dev b.seq b.stamp b.kind b.item b.qty b.level b.undos
def mC (a b : aA) : Bool := preB a.stamp a.dev a.seq b.stamp b.dev b.seq
def jA (a b : aA) : aA := if t8 b a = true then a else b
structure cK where
 level : Int
 counted : aA
 placed : aA
def cK.zero : cK := ⟨0, aA.zero, aA.zero⟩
def wD (kind : Int) : Bool := decide (kind = 1 ∨ kind = 2)
def gR (kind : Int) : Bool := decide (kind = 1 ∨ kind = 4 ∨ kind = 5)
def eU (s : cK) (o : aA) : cK := ⟨max s.level o.level, if wD o.kind = true then jA s.counted o else s.counted, if gR o.kind = true then jA s.placed o else s.placed⟩
def cA (item : ByteArray) (bI : List aA) : cK := bI.foldl (fun s o => if o.item = item then eU s o else s) cK.zero
theorem uX (item : ByteArray) (bI : List aA) (o : aA) : cA item (bI ++ [o]) = if o.item = item then eU (cA item bI) o else cA item bI := by
 unfold cA
 rw [List.foldl_append]
 rfl
theorem aCk (item : ByteArray) (bI : List aA) : 0 ≤ (cA item bI).level := by
 unfold cA
 have : ∀ (l : List aA) (s : cK), 0 ≤ s.level → 0 ≤ (l.foldl (fun s o => if o.item = item then eU s o else s) s).level := by
  intro l
  induction l with
  | nil => intro s h; exact h
  | cons o l ih =>
   intro s h
   rw [List.foldl_cons]; refine ih _ ?_
   split
   ·show 0 ≤ max _ _; omega
   ·exact h
 exact this bI cK.zero (Int.le_refl _)
def aO (item : ByteArray) (l : List aA) : Nat → Int
 | 0 => 0
 | k + 1 => if (l.getD k aA.zero).item = item ∧ (l.getD k aA.zero).undos % 2 = 0 then max (aO item l k) (l.getD k aA.zero).level else aO item l k
def bA (P : Int → Bool) (item : ByteArray) (l : List aA) : Nat → aA
 | 0 => aA.zero
 | k + 1 => if (P (l.getD k aA.zero).kind = true ∧ (l.getD k aA.zero).item = item ∧ (l.getD k aA.zero).undos % 2 = 0) ∧ ((bA P item l k).kind = 0 ∨ mC (bA P item l k) (l.getD k aA.zero) = true) then l.getD k aA.zero else bA P item l k
theorem j0 (P : Int → Bool) (item : ByteArray) (l : List aA) : ∀ k, bA P item l k = aA.zero ∨ ∃ i, i < k ∧ bA P item l k = aB l i
 | 0 => .inl rfl
 | k + 1 => by
  rw [bA]
  split
  ·exact .inr ⟨k, by omega, rfl⟩
  ·rcases j0 P item l k with h | ⟨i, hi, h⟩
   ·exact .inl h
   ·exact .inr ⟨i, by omega, h⟩
theorem aEh {o : aA} (h : o.ok = true) : 1 ≤ o.kind ∧ o.kind ≤ 5 := by
 unfold aA.ok dK X5 at h
 simp only [Bool.and_eq_true] at h
 have := eR.1 h.2.1
 exact this
theorem aHh : aA.zero.ok = false := by
 rcases h : aA.zero.ok with _ | _
 ·rfl
 ·have := aEh h
  have e : aA.zero.kind = 0 := rfl; omega
theorem aLR {a b : aA} (ha : a.ok = true) (hb : b.ok = true) : t8 a b = mC a b := by
 unfold t8 K3
 unfold aA.ok at ha hb
 rw [ha, hb]
 rfl
theorem aKt {a b : aA} (hb : b.ok = false) : t8 a b = false := by
 unfold t8 K3
 unfold aA.ok at hb
 rw [hb]
 simp
theorem aHs {a b : aA} (h : a.dev ≠ b.dev ∨ a.seq ≠ b.seq) : mC a b = !mC b a := by
 unfold mC preB
 rcases Int.lt_trichotomy a.stamp b.stamp with h1 | h1 | h1 <;> rcases Int.lt_trichotomy a.dev b.dev with h2 | h2 | h2 <;> rcases Int.lt_trichotomy a.seq b.seq with h3 | h3 | h3 <;> (rw [Bool.eq_iff_iff]; simp; omega)
theorem aAq {xs : List Int} {l : List aA} (hc : aD xs l = true) (P : Int → Bool) (item : ByteArray) {k : Nat} (hk : k < l.length) :
  jA (bA P item l k) (l.getD k aA.zero) = if (bA P item l k).kind = 0 ∨ mC (bA P item l k) (l.getD k aA.zero) = true then l.getD k aA.zero else bA P item l k := by
 obtain ⟨_, _, _, _, _, hok, _, _⟩ := fG hc hk
 unfold jA
 rcases j0 P item l k with h | ⟨i, hi, h⟩
 ·rw [h, aKt aHh, if_neg (by simp), if_pos (.inl rfl)]
 ·obtain ⟨_, _, _, _, _, aLl, _, _⟩ := fG hc (i := i) (by omega)
  rw [h]; have hn : (aB l i).kind ≠ 0 := by have := aEh aLl; omega
  have bJ : (aB l i).dev ≠ (l.getD k aA.zero).dev ∨ (aB l i).seq ≠ (l.getD k aA.zero).seq := by
   rcases Classical.em ((aB l i).dev = (l.getD k aA.zero).dev) with h1 | h1
   ·right; intro h2
    have := aIG hc (i := i) (j := k) (by omega) hk h1 h2
    omega
   ·exact .inl h1
  have hb : t8 (l.getD k aA.zero) (aB l i) = mC (l.getD k aA.zero) (aB l i) := aLR hok aLl; rw [hb, aHs bJ]; cases mC (l.getD k aA.zero) (aB l i)
  ·rw [if_neg (by simp), if_pos (.inr rfl)]
  ·rw [if_pos rfl, if_neg (by simp [hn])]
theorem xV {xs : List Int} {l : List aA} (hc : aD xs l = true) (item : ByteArray) : ∀ k, k ≤ l.length → cA item (hM l k) = ⟨aO item l k, bA wD item l k, bA gR item l k⟩
 | 0, _ => rfl
 | k + 1, hk => by
  have mY : k < l.length := hk; have ih := xV hc item k (by omega)
  obtain ⟨_, _, _, _, _, hok, _, _⟩ := fG hc mY; have hl := E5 hok; have e : aB l k = l.getD k aA.zero := rfl; rw [e] at hl
  by_cases hu : (l.getD k aA.zero).undos % 2 = 0
  ·rw [I1 mY (by rw [hl, decide_eq_true hu]), uX]
   by_cases hi : (l.getD k aA.zero).item = item
   ·rw [if_pos hi, ih, aO, if_pos ⟨hi, hu⟩, bA, bA]
    unfold eU; simp only []
    congr 1
    ·cases hP : wD (l.getD k aA.zero).kind
     ·rw [if_neg (by simp), if_neg (by simp)]
     ·rw [if_pos rfl, aAq hc wD item mY]
      simp only [hi, hu, true_and, and_self]
    ·cases hP : gR (l.getD k aA.zero).kind
     ·rw [if_neg (by simp), if_neg (by simp)]
     ·rw [if_pos rfl, aAq hc gR item mY]
      simp only [hi, hu, true_and, and_self]
   ·rw [if_neg hi, ih, aO, if_neg (fun h => hi h.1), bA, if_neg (fun h => hi h.1.2.1), bA, if_neg (fun h => hi h.1.2.1)]
  ·rw [Q7 mY (by rw [hl, decide_eq_false hu]), ih, aO, if_neg (fun h => hu h.2), bA, if_neg (fun h => hu h.1.2.2), bA, if_neg (fun h => hu h.1.2.2)]
theorem dG {o : aA} (h : o.ok = true) : 1 ≤ o.seq ∧ o.seq ≤ 40 ∧ 1 ≤ o.stamp ∧ o.stamp ≤ 100000 ∧ o.item.size ≤ 8 ∧ 0 ≤ o.undos ∧ o.undos ≤ 50 ∧ 0 ≤ o.level ∧ o.level ≤ 100 := by
 have h' : dK o.dev o.seq o.stamp o.kind o.item o.qty o.level o.undos = true := h
 unfold dK rI X5 at h'
 simp only [Bool.and_eq_true] at h'
 obtain ⟨⟨_, hs, ht, hi, hu⟩, _, _, hl⟩ := h'
 unfold cO at hs ht hu
 have hs := of_decide_eq_true hs
 have ht := of_decide_eq_true ht
 have hu := of_decide_eq_true hu
 unfold gO at hi
 rw [Bool.and_eq_true] at hi
 have hi := of_decide_eq_true hi.1
 have hlv : 0 ≤ o.level ∧ o.level ≤ 100 := by
  unfold lB at hl
  split at hl
  ·rw [Bool.and_eq_true] at hl
   have := of_decide_eq_true (show decide (1 ≤ o.level ∧ o.level ≤ 100) = true from hl.1); omega
  ·split at hl
   ·rw [Bool.and_eq_true] at hl
    have := of_decide_eq_true (show decide (2 ≤ o.level ∧ o.level ≤ 100) = true from hl.1); omega
   ·have := of_decide_eq_true hl
    omega
 exact ⟨hs.1, hs.2, ht.1, ht.2, hi.2, hu.1, hu.2, hlv.1, hlv.2⟩
theorem eT {xs : List Int} {l : List aA} (h : aD xs l = true) {i : Nat} (hi : i < l.length) : (aB l i).ok = true := by
 obtain ⟨_, _, _, _, _, hok, _⟩ := fG h hi
 exact hok
theorem eP {xs : List Int} {l : List aA} (h : aD xs l = true) : xs.length = 4 ∧ ∀ d, d < 4 → 0 ≤ xs.getD d 0 ∧ xs.getD d 0 ≤ 40 := by
 have hv : cG xs = true := by
  cases e : cG xs
  ·rw [s8 e] at h; cases h
  ·rfl
 unfold cG at hv
 rw [Bool.and_eq_true] at hv
 have hl := of_decide_eq_true hv.2
 refine ⟨hl, fun d hd => ?_⟩
 have hm : xs.getD d 0 ∈ xs := by rw [List.getD_eq_getElem?_getD, List.getElem?_eq_getElem (by omega)]; exact List.getElem_mem _
 have := List.all_eq_true.1 hv.1 _ hm
 exact I8 this
theorem eL {xs : List Int} {l : List aA} (h : aD xs l = true) : l.length ≤ 160 := by
 have hv := (eP h).2
 unfold aD at h
 rw [Bool.and_eq_true, Bool.and_eq_true] at h
 have hs := of_decide_eq_true h.2.2
 have h0 := hv 0 (by omega)
 have h1 := hv 1 (by omega)
 have h2 := hv 2 (by omega)
 have h3 := hv 3 (by omega)
 have : aL xs 4 = (((0 + (xs.getD 0 0).toNat) + (xs.getD 1 0).toNat) + (xs.getD 2 0).toNat) + (xs.getD 3 0).toNat := rfl
 omega
theorem xK {xs : List Int} {l : List aA} (h : aD xs l = true) (item : ByteArray) : ∀ k, k ≤ l.length → aO item l k ≤ 100
 | 0, _ => by show (0 : Int) ≤ 100; omega
 | k + 1, hk => by
  have ih := xK h item k (by omega)
  have hb := dG (eT h (i := k) (by omega))
  have e : l.getD k aA.zero = aB l k := rfl; rw [aO, e]
  split
  ·omega
  ·exact ih
end Go.Proofs.YthkagbnpcjidfaaGreatDoor
