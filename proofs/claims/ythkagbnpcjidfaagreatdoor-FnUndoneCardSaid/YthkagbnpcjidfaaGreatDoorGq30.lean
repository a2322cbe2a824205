/- Walks and mathematics that several claims share, part 30. -/
import Derived.Test.YthkagbnpcjidfaaGreatDoorGq23
import Derived.Test.YthkagbnpcjidfaaGreatDoorGq29
import Derived.Deep.Cut
namespace Go.Proofs.YthkagbnpcjidfaaGreatDoor
set_option maxRecDepth 100000
open Go.RowKit
set_option linter.unusedVariables false
set_option linter.unusedSimpArgs false
theorem aD7 {xs : List Int} {l : List aA} (h : aD xs l = true) {d : Nat} (hd : d < 4) : putAt (d : Int) l = aP xs (d + 1) := by
 obtain ⟨_, iO, h4⟩ := jW h
 have yS := mX (d : Int) l
 have hm : aP xs (d + 1) ≤ l.length := by rw [← h4]; exact jI xs _ _ (by omega)
 rcases Nat.lt_trichotomy (putAt (d : Int) l) (aP xs (d + 1)) with g | g | g
 ·exfalso
  have aM : putAt (d : Int) l < l.length := by omega
  have he := c9 aM; obtain ⟨e, he4, h1, h2, _, hde, _⟩ := qT h aM
  apply he
  rw [hde]; rcases Nat.lt_or_ge d e with q | q
  ·have := jI xs (d + 1) e q; omega
  ·omega
 ·exact g
 ·exfalso
  have aM : aP xs (d + 1) < l.length := by omega
  have ha := aA0 g; obtain ⟨e, he4, h1, h2, _, hde, _⟩ := qT h aM; rw [hde] at ha; have := jI xs (e + 1) (d + 1) (by omega)
  omega
theorem aMX {l : List aA} {d i : Nat} (o : aA) (hi : i < putAt (d : Int) l) : aB (bH l d o) i = aB l i := by
 have yS := mX (d : Int) l
 unfold aB bH
 rw [List.getD_eq_getElem?_getD, List.getD_eq_getElem?_getD, List.append_assoc, List.getElem?_append_left (by rw [List.length_take]; omega), List.getElem?_take_of_lt hi]
theorem put_eq (l : List aA) (d : Nat) (o : aA) : aB (bH l d o) (putAt (d : Int) l) = o := by
 have yS := mX (d : Int) l
 unfold aB bH
 rw [List.getD_eq_getElem?_getD, List.append_assoc, List.getElem?_append_right (by rw [List.length_take]; omega), List.length_take, Nat.min_eq_left yS, Nat.sub_self]
 rfl
theorem aMY {l : List aA} {d i : Nat} (o : aA) (hi : putAt (d : Int) l ≤ i) : aB (bH l d o) (i + 1) = aB l i := by
 have yS := mX (d : Int) l
 unfold aB bH
 rw [List.getD_eq_getElem?_getD, List.getD_eq_getElem?_getD, List.append_assoc, List.getElem?_append_right (by rw [List.length_take]; omega), List.length_take, Nat.min_eq_left yS, show i + 1 - putAt (d : Int) l = (i - putAt (d : Int) l) + 1 by omega]
 show (([o] ++ l.drop (putAt (d : Int) l))[(i - putAt (d : Int) l) + 1]?).getD _ = _
 rw [List.getElem?_append_right (by show 1 ≤ _; omega)]
 show ((l.drop (putAt (d : Int) l))[(i - putAt (d : Int) l) + 1 - 1]?).getD _ = _
 rw [List.getElem?_drop]
 congr 2
 omega
theorem M3 {xs : List Int} {d e : Nat} (hl : xs.length = 4) (hd : d < 4) : (dH xs d).getD e 0 = if d = e then xs.getD d 0 + 1 else xs.getD e 0 := by
 unfold dH
 exact gF (by omega)
theorem aD0 {xs : List Int} {d : Nat} (hl : xs.length = 4) (hd : d < 4) (h0 : 0 ≤ xs.getD d 0) : ∀ e, aP (dH xs d) e = if e ≤ d then aP xs e else aP xs e + 1
 | 0 => by rw [if_pos (Nat.zero_le _)]; rfl
 | e + 1 => by
  show aP (dH xs d) e + ((dH xs d).getD e 0).toNat = _
  rw [aD0 hl hd h0 e, M3 hl hd]; have hs : aP xs (e + 1) = aP xs e + (xs.getD e 0).toNat := rfl; rcases Nat.lt_trichotomy e d with g | g | g
  ·rw [if_pos (by omega : e ≤ d), if_neg (by omega : ¬ d = e), if_pos (by omega : e + 1 ≤ d), hs]
  ·subst g
   rw [if_pos (Nat.le_refl e), if_pos rfl, if_neg (by omega : ¬ e + 1 ≤ e), hs]
   omega
  ·rw [if_neg (by omega : ¬ e ≤ d), if_neg (by omega : ¬ d = e), if_neg (by omega : ¬ e + 1 ≤ d), hs]
   omega
theorem P2 (l : List aA) : ∀ k i, i < k → (aB l i).stamp ≤ cX l k
 | k + 1, i, h => by
  rw [cX]; rcases Nat.lt_or_ge i k with g | g
  ·have := P2 l k i g; omega
  ·obtain rfl : i = k := by omega
   omega
theorem zN {xs : List Int} {l : List aA} {d : Nat} : jD xs l d = true ↔ aP xs (d + 1) ≤ l.length ∧ ∀ s, s < (xs.getD d 0).toNat → kG l d (aP xs d) s = true := by
 unfold jD lU
 simp only [Bool.and_eq_true, decide_eq_true_eq, List.all_eq_true, List.mem_range]
theorem aI7 {xs : List Int} (hl : xs.length = 4) (h : ∀ d, d < 4 → 0 ≤ xs.getD d 0 ∧ xs.getD d 0 ≤ 40) : cL xs = true := by
 unfold cL
 rw [Bool.and_eq_true]
 refine ⟨?_, decide_eq_true hl⟩
 rw [List.all_eq_true]
 intro x hx
 obtain ⟨i, hi, e⟩ := List.mem_iff_getElem.1 hx
 have e2 : xs.getD i 0 = x := by rw [List.getD_eq_getElem?_getD, List.getElem?_eq_getElem hi]; exact e
 have := h i (by omega)
 rw [← e2]
 unfold tP
 rw [Bool.and_eq_true]
 exact ⟨decide_eq_true (by omega), decide_eq_true (by omega)⟩
theorem R2 {xs : List Int} {l : List aA} (h : aD xs l = true) {d : Nat} (hd : d < 4) {o : aA} (hok : (aK xs l d o).ok = true) : aD (dH xs d) (bH l d (aK xs l d o)) = true := by
 obtain ⟨hv, iO, h4⟩ := jW h
 have hl := (fO hv (d := 0) (by omega)).2.2
 have hxd := fO hv hd
 have hb := dI hok
 have aJX : (aK xs l d o).seq = xs.getD d 0 + 1 := rfl
 have aPX : (aK xs l d o).dev = (d : Int) := rfl
 have eY : (aK xs l d o).stamp = cX l l.length + 1 := rfl
 have hp := aD7 h hd
 have hlp : (bH l d (aK xs l d o)).length = l.length + 1 := mW l d _
 have hd1 : aP xs (d + 1) = aP xs d + (xs.getD d 0).toNat := rfl
 have aQ9 : aP xs (d + 1) ≤ l.length := by rw [← h4]; exact jI xs _ _ (by omega)
 have hs := aD0 hl hd hxd.1
 have aM := fun i => aMX (l := l) (d := d) (i := i) (aK xs l d o)
 have heq := put_eq l d (aK xs l d o)
 have hgt := fun i => aMY (l := l) (d := d) (i := i) (aK xs l d o)
 generalize aK xs l d o = x at *
 rw [hp] at aM heq hgt
 have hvo : cL (dH xs d) = true := aI7 (by unfold dH; rw [List.length_set]; exact hl) fun e he => by
  rw [M3 hl hd]; have := fO hv he
  split <;> omega
 unfold aD
 rw [Bool.and_eq_true, Bool.and_eq_true]
 refine ⟨hvo, ?_, ?_⟩
 ·rw [List.all_eq_true]
  intro e he
  have he : e < 4 := List.mem_range.1 he; have hE := zN.1 (iO e he); rw [zN, hs e, hs (e + 1), hlp, M3 hl hd]; have eI : aP xs (e + 1) = aP xs e + (xs.getD e 0).toNat := rfl; refine ⟨by split <;> omega, fun s hsl => ?_⟩
  rcases Nat.lt_trichotomy e d with g | g | g
  ·rw [if_neg (by omega)] at hsl
   rw [if_pos (by omega)]
   have hm := jI xs (e + 1) d g; obtain ⟨f1, f2, f3, f4⟩ := jV (hE.2 s hsl); have e1 := aM (aP xs e + s) (by omega)
   refine sU (by rw [e1]; exact f1) (by rw [e1]; exact f2) (by rw [e1]; exact f3) ?_
   rw [e1]; unfold dO at f4 ⊢
   split
   ·rename_i h0; rw [if_pos h0] at f4; exact f4
   ·rename_i h0; rw [if_neg h0] at f4; rw [aM _ (by omega)]; exact f4
  ·subst g
   rw [if_pos rfl] at hsl; rw [if_pos aRr]; rcases Nat.lt_or_ge s (xs.getD e 0).toNat with q | q
   ·obtain ⟨f1, f2, f3, f4⟩ := jV (hE.2 s q)
    have e1 := aM (aP xs e + s) (by omega)
    refine sU (by rw [e1]; exact f1) (by rw [e1]; exact f2) (by rw [e1]; exact f3) ?_
    rw [e1]; unfold dO at f4 ⊢
    split
    ·rename_i h0; rw [if_pos h0] at f4; exact f4
    ·rename_i h0; rw [if_neg h0] at f4; rw [aM _ (by omega)]; exact f4
   ·have e0 : aP xs e + s = aP xs (e + 1) := by omega
    have e1 : aB (bH l e x) (aP xs e + s) = x := by rw [e0]; exact heq
    refine sU (by rw [e1]; exact hok) (by rw [e1]; exact aPX) (by rw [e1, aJX]; omega) ?_
    rw [e1, eY]; have hsp := pI l l.length; unfold dO
    split
    ·omega
    ·rename_i h0
     rw [aM _ (by omega)]
     have := P2 l l.length (aP xs e + s - 1) (by omega)
     omega
  ·rw [if_neg (by omega)] at hsl
   rw [if_neg (by omega)]
   have hm := jI xs (d + 1) e g; obtain ⟨f1, f2, f3, f4⟩ := jV (hE.2 s hsl); have e1 : aB (bH l d x) (aP xs e + 1 + s) = aB l (aP xs e + s) := by
    rw [show aP xs e + 1 + s = aP xs e + s + 1 by omega]
    exact hgt _ (by omega)
   refine sU (by rw [e1]; exact f1) (by rw [e1]; exact f2) (by rw [e1]; exact f3) ?_
   rw [e1]; unfold dO at f4 ⊢
   split
   ·rename_i h0; rw [if_pos h0] at f4; exact f4
   ·rename_i h0
    rw [if_neg h0] at f4; rw [show aP xs e + 1 + s - 1 = aP xs e + s - 1 + 1 by omega, hgt _ (by omega)]
    exact f4
 ·rw [decide_eq_true_eq, hs 4, hlp, if_neg (by omega)]
  omega
theorem aBg {xs : List Int} {l : List aA} (h : aD xs l = true) {i : Nat} (hi : i < l.length) (hu : (aB l i).undos ≠ 50) : aD xs (dX l i) = true := by
 obtain ⟨hv, iO, h4⟩ := jW h
 have hl := kC l i
 have X2 : ∀ j, aB (dX l i) j = if i = j then iL (aB l i) else aB l j := fun j => by
  unfold dX aB; exact gF hi
 have hub := dI (fI h hi)
 have eY : ∀ j, (aB (dX l i) j).stamp = (aB l j).stamp := fun j => by
  rw [X2]
  split
  ·rename_i e; subst e; rfl
  ·rfl
 unfold aD
 rw [Bool.and_eq_true, Bool.and_eq_true]
 refine ⟨hv, ?_, ?_⟩
 ·rw [List.all_eq_true]
  intro e he
  have he : e < 4 := List.mem_range.1 he; have hE := zN.1 (iO e he); rw [zN, hl]; refine ⟨hE.1, fun s hs => ?_⟩
  obtain ⟨f1, f2, f3, f4⟩ := jV (hE.2 s hs); have hpv : dO (dX l i) (aP xs e) s = dO l (aP xs e) s := by
   unfold dO
   split
   ·rfl
   ·exact eY _
  refine sU ?_ ?_ ?_ (by rw [hpv, eY]; exact f4)
  all_goals
   rw [X2]
   split
  ·rename_i e2
   subst e2; exact aGc (a := aB l (aP xs e + s)) f1 (u := (aB l (aP xs e + s)).undos + 1) (by omega) (by omega)
  ·exact f1
  ·rename_i e2; subst e2; exact f2
  ·exact f2
  ·rename_i e2; subst e2; exact f3
  ·exact f3
 ·rw [decide_eq_true_eq, hl]; exact h4
def aCB (x : ByteArray) (l : List aA) : Int := l.foldl (fun a o => if o.item = x ∧ o.undos % 2 = 0 then max a o.level else a) 0
theorem aCW {l : List aA} {k : Nat} (h : k < l.length) : l.take (k + 1) = l.take k ++ [l.getD k aA.zero] := by
 rw [List.take_succ_eq_append_getElem h, List.getD_eq_getElem?_getD, List.getElem?_eq_getElem h]; rfl
theorem aEm (x : ByteArray) (l : List aA) : ∀ k, k ≤ l.length → aL x l k = aCB x (l.take k)
 | 0, _ => rfl
 | k + 1, h => by
  rw [aL, aCW (by omega), aEm x l k (by omega)]
  unfold aCB; rw [List.foldl_append]
  rfl
def aAz (P : Int → Bool) (x : ByteArray) (l : List aA) : aA := l.foldl (fun b o => if (P o.kind = true ∧ o.item = x ∧ o.undos % 2 = 0) ∧ (b.kind = 0 ∨ mZ b o = true) then o else b) aA.zero
theorem aDq (P : Int → Bool) (x : ByteArray) (l : List aA) : ∀ k, k ≤ l.length → bA P x l k = aAz P x (l.take k)
 | 0, _ => rfl
 | k + 1, h => by
  rw [bA, aCW (by omega), aDq P x l k (by omega)]
  unfold aAz; rw [List.foldl_append]
  rfl
theorem zW (x : ByteArray) (l : List aA) : aL x l l.length = aCB x l := by rw [aEm x l _ aRr, List.take_length]
theorem C8 (P : Int → Bool) (x : ByteArray) (l : List aA) : bA P x l l.length = aAz P x l := by rw [aDq P x l _ aRr, List.take_length]
theorem aGg {x : ByteArray} {l : List aA} {d : Nat} {o : aA} (h : o.item ≠ x) : aL x (bH l d o) (bH l d o).length = aL x l l.length := by
 rw [zW, zW]
 have e : l = l.take (putAt (d : Int) l) ++ l.drop (putAt (d : Int) l) := (List.take_append_drop _ _).symm
 show aCB x (l.take (putAt (d : Int) l) ++ [o] ++ l.drop (putAt (d : Int) l)) = aCB x l
 conv => rhs; rw [e]
 unfold aCB
 rw [List.foldl_append, List.foldl_append, List.foldl_append]
 congr 1
 show (if o.item = x ∧ o.undos % 2 = 0 then _ else _) = _
 rw [if_neg (fun q => h q.1)]
theorem aEZ {P : Int → Bool} {x : ByteArray} {l : List aA} {d : Nat} {o : aA} (h : o.item ≠ x) : bA P x (bH l d o) (bH l d o).length = bA P x l l.length := by
 rw [C8, C8]
 have e : l = l.take (putAt (d : Int) l) ++ l.drop (putAt (d : Int) l) := (List.take_append_drop _ _).symm
 show aAz P x (l.take (putAt (d : Int) l) ++ [o] ++ l.drop (putAt (d : Int) l)) = aAz P x l
 conv => rhs; rw [e]
 unfold aAz
 rw [List.foldl_append, List.foldl_append, List.foldl_append]
 congr 1
 show (if (P o.kind = true ∧ o.item = x ∧ o.undos % 2 = 0) ∧ _ then _ else _) = _
 rw [if_neg (fun q => h q.1.2.1)]
theorem aH2 {xs : List Int} {l : List aA} (h : aD xs l = true) {d : Nat} (hd : d < 4) {s : Int} (h1 : 1 ≤ s) (h2 : s ≤ xs.getD d 0) : (aP xs d + (s.toNat - 1)) < l.length ∧ nameAt l (d : Int) s = aP xs d + (s.toNat - 1) := by
 obtain ⟨a, b⟩ := C7 h hd (s := s.toNat - 1) (by omega)
 refine ⟨a, aAr h a b.1 ?_⟩
 rw [b.2]
 omega
theorem aJg {xs : List Int} {l : List aA} (h : aD xs l = true) {d : Nat} (hd : d < 4) {s : Int} (hs : ¬ (1 ≤ s ∧ s ≤ xs.getD d 0)) : ¬ nameAt l (d : Int) s < l.length := aC2 fun j hj ⟨e1, e2⟩ => by
 obtain ⟨e, he, a1, a2, _, a3, a4⟩ := qT h hj
 have hde : d = e := by rw [a3] at e1; omega
 subst hde
 have hv := fO (jW h).1 hd
 have : aP xs (d + 1) = aP xs d + (xs.getD d 0).toNat := rfl
 rw [a4] at e2
 omega
set_option maxHeartbeats 20000000 in
theorem aBO (w : World) (B : Nat) (a : Option Addr) (n cap : Nat) (l : List aA) (h : bR w B a n l) (hB : B ≤ w.heap.size) (hn : n ≤ 1048576) : Calls Tryz.prog 154 #[.slice a n cap] w fun e w' => e = .returned (.int .i64 (cX l l.length)) ∧ Below w.heap.size w w' := by
 have H := aRp h
 have HL := aRp h.1
 clear h
 go_enter Tryz.func154, Tryz.ntmps154
 go_wp2
 go_loopw [3, 8] (fun s i wr => ∃ k : Nat, k ≤ n ∧ i = .int .i64 (k : Int) ∧ s = .int .i64 (cX l k) ∧ Hid (Below w.heap.size w wr)) (fun _ i _ => n - (intOf i).toNat)
 case atStart => exact ⟨0, Nat.zero_le _, rfl, rfl, Below.refl _ _⟩
 case round =>
  obtain ⟨k, hk, rfl, rfl, HB⟩ := hrel
  by_cases aM : k < n
  rotate_left
  ·obtain rfl : k = n := by omega
   go_wp2
   go_ret
   exact ⟨by rw [HL.out]; rfl, HB.out⟩
  obtain ⟨b, off, rfl, hb, ho⟩ := H.out.2 k aM; obtain ⟨c0, c1, c2, c3, c4, c5, c6, c7⟩ := ho.kept (HB.out.block b (by omega))
  clear ho; have HU : Hid (cX l (k + 1) = max (cX l k) (l.getD k aA.zero).stamp) := rfl; generalize l.getD k aA.zero = x at HU c0 c1 c2 c3 c4 c5 c6 c7; generalize eY : cX l k = st at HU ⊢; clear eY
  go_upto_region 5 with fail
  have HX := aRp (bM (Below.refl _ (wr.alloc (.cells #[.int .i64 x.dev, .int .i64 x.seq, .int .i64 x.stamp, .int .i64 x.kind, .string x.item, .int .i64 x.qty, .int .i64 x.level, .int .i64 x.undos] 50)))); have dK := aRp (HB.out.alloc HB.out.size (.cells #[.int .i64 x.dev, .int .i64 x.seq, .int .i64 x.stamp, .int .i64 x.kind, .string x.item, .int .i64 x.qty, .int .i64 x.level, .int .i64 x.undos] 50)); generalize wr.alloc (.cells #[.int .i64 x.dev, .int .i64 x.seq, .int .i64 x.stamp, .int .i64 x.kind, .string x.item, .int .i64 x.qty, .int .i64 x.level, .int .i64 x.undos] 50) = w1 at HX dK ⊢; generalize wr.heap.size = bo at HX ⊢; clear c0 c1 c2 c3 c4 c5 c6 c7 HB; obtain ⟨d0, d1, d2, d3, d4, d5, d6, d7⟩ := aH HX.out; go_wp2
  go_roundw
  case rel => exact ⟨k + 1, by omega, by go_num, by rw [HU.out], dK⟩
  case measure => simp [intOf]; omega
set_option maxHeartbeats 20000000 in
theorem vT (w : World) (B : Nat) (av ao : Option Addr) (cv no co d : Nat) (xs : List Int) (hx : Ints w B av 4 xs) (hB : B ≤ w.heap.size) (bU : 4 ≤ cv) (hd : d < 4) (hv : cL xs = true) (s : Int) (h1 : 1 ≤ s) (h2 : s ≤ 1000) :
  Calls Tryz.prog 72 #[.agg #[.slice av 4 cv, .slice ao no co], .int .i64 (d : Int), .int .i64 s] w fun e w' => e = .returned (.int .i64 ((aP xs d + (s.toNat - 1) : Nat) : Int)) ∧ Below w.heap.size w w' := by
 have bG : Below w.heap.size w (w.alloc (.cells #[.slice av 4 cv, .slice ao no co] 27)) := (Below.refl _ w).alloc aRr _
 have HV := aRp (hx.below bG hB)
 have HB := aRp bG
 have HX := aRp (bM (Below.refl _ (w.alloc (.cells #[.slice av 4 cv, .slice ao no co] 27))))
 have HVo := aRp hv
 clear hx bG hv
 obtain ⟨b, off, hav, _⟩ := HV.out.2 0 (by omega)
 subst hav
 go_enter Tryz.func72, Tryz.ntmps72
 go_upto_region 1 with fail
 generalize w.alloc (.cells #[.slice (some ⟨b, off, none⟩) 4 cv, .slice ao no co] 27) = w0 at HV HB HX ⊢
 obtain ⟨c0, c1⟩ := pair_cells HX.out
 have hdi : (d : Int) ≤ 4 := by omega
 have hdc : (d : Int) ≤ (cv : Int) := by omega
 have hws : IntKind.i64.wrap (s - 1) = s - 1 := IntWalk.i64_in _ (by omega)
 go_wp2
 go_loopw [7, 17] (fun p i wr => ∃ k : Nat, k ≤ d ∧ i = .int .i64 (k : Int) ∧ p = .int .i64 (s - 1 + (aP xs k : Int)) ∧ wr = w0) (fun _ i _ => d - (intOf i).toNat)
 case atStart => exact ⟨0, Nat.zero_le _, rfl, by show _ = Value.int .i64 (s - 1 + ((0 : Nat) : Int)); simp, rfl⟩
 case round =>
  obtain ⟨k, hk, rfl, rfl, rfl⟩ := hrel
  by_cases aM : k < d
  rotate_left
  ·obtain rfl : k = d := by omega
   have he : s - 1 + (aP xs k : Int) = ((aP xs k + (s.toNat - 1) : Nat) : Int) := by omega
   rw [he]; go_wp2
   go_ret
   exact ⟨rfl, HB.out⟩
  obtain ⟨b', o', e, hb, hc⟩ := HV.out.2 k (by omega)
  injection e with e; injection e with e1 e2; subst e1 e2; have hvk := fO HVo.out (d := k) (by omega)
  have hsk := aAm HVo.out k (by omega)
  have aKZ : (aP xs (k + 1) : Int) = (aP xs k : Int) + xs.getD k 0 := by
   show ((aP xs k + (xs.getD k 0).toNat : Nat) : Int) = _
   omega
  have cI := aRp aKZ; clear aKZ; have hki : (k : Int) < (d : Int) := by omega
  generalize xs.getD k 0 = y at hc hvk cI; generalize hq : (aP xs k : Int) = q at cI ⊢; have X0 : 0 ≤ q ∧ q ≤ 160 := by omega
  clear hq hsk; have hwp : IntKind.i64.wrap (s - 1 + q + y) = s - 1 + q + y := IntWalk.i64_in _ (by omega)
  go_wp2
  go_roundw
  case rel => exact ⟨k + 1, by omega, by go_num, by rw [cI.out]; congr 1; omega, trivial⟩
  case measure => simp [intOf]; omega
theorem i1 {xs : List Int} {l : List aA} (h : aD xs l = true) {d : Nat} (hd : d < 4) {kind : Int} {item : ByteArray} {qty : Int} (h0 : (dM xs l d kind item qty).1 = 0) : aD (dM xs l d kind item qty).2.1 (dM xs l d kind item qty).2.2 = true := by
 unfold dM at h0 ⊢
 dsimp only at h0 ⊢
 split at h0
 ·rename_i h1
  rw [if_pos h1]
  split at h0
  ·rename_i h2
   rw [if_pos h2]; exact R2 h hd h2
  ·cases h0
 ·rename_i h1
  exact absurd h0 h1
def oV (d : Nat) : List ByteArray → List Int → List aA → Int × List Int × List aA
 | [], zs, m => (0, zs, m)
 | s :: U, zs, m => if (dM zs m d 3 s 0).1 = 0 then oV d U (dM zs m d 3 s 0).2.1 (dM zs m d 3 s 0).2.2 else ((dM zs m d 3 s 0).1, [], [])
def xZ (l : List aA) (d : Nat) : List ByteArray → List Int × List aA × Int → Option (List Int × List aA × Int)
 | [], q => some q
 | s :: L, q => (eS l d s q).bind (xZ l d L)
theorem aDm (l : List aA) (d : Nat) (s : ByteArray) : ∀ (A : List ByteArray) (q : List Int × List aA × Int), xZ l d (A ++ [s]) q = (xZ l d A q).bind (eS l d s)
 | [], q => by
  show (eS l d s q).bind (xZ l d []) = eS l d s q
  cases eS l d s q <;> rfl
 | a :: A, q => by
  show (eS l d a q).bind (xZ l d (A ++ [s])) = ((eS l d a q).bind (xZ l d A)).bind (eS l d s)
  cases eS l d a q with
  | none => rfl
  | some q' => exact aDm l d s A q'
theorem aB0 (xs : List Int) (l : List aA) (d : Nat) (L : List ByteArray) : ∀ k, k ≤ L.length → iG xs l d L k = xZ l d (L.take k) (xs, l, 2)
 | 0, _ => rfl
 | k + 1, h => by
  have e : L.take (k + 1) = L.take k ++ [L.getD k ⟨#[]⟩] := by
   rw [List.take_succ_eq_append_getElem (by omega), List.getD_eq_getElem?_getD, List.getElem?_eq_getElem (by omega)]; rfl
  rw [e, aDm, ← aB0 xs l d L k (by omega)]
  rfl
theorem aL8 {zs : List Int} {m l : List aA} {d : Nat} {s : ByteArray} (h1 : aL s m m.length = aL s l l.length) (h2 : aL s l l.length % 2 = 1) : dM zs m d 3 s 0 = if (aK zs m d (kM l s)).ok = true then (0, dH zs d, bH m d (aK zs m d (kM l s))) else (4, [], []) := by
 unfold dM
 have e : oneOf (aL s m m.length) (bW m s) 3 s 0 = (kM l s, 0) := by
  unfold oneOf kM; rw [h1, if_neg (by decide), if_pos h2, if_neg (by decide), if_pos rfl]
 dsimp only
 rw [e]
 dsimp only
 rw [if_pos rfl]
theorem aG5 {l : List aA} {d : Nat} (hd : d < 4) : ∀ (L : List ByteArray) (zs : List Int) (m : List aA) (c : Int), aD zs m = true → (∀ s, s ∈ L → aL s m m.length = aL s l l.length ∧ aL s l l.length % 2 = 1) → L.Nodup →
  match xZ l d L (zs, m, c) with
  | none => oV d (L.filter fun s => !bW l s) zs m = (4, [], []) ∧ (L.filter fun s => !bW l s) ≠ []
  | some q => oV d (L.filter fun s => !bW l s) zs m = (0, q.1, q.2.1) ∧ q.2.2 = (if (L.filter fun s => !bW l s) = [] then c else 0)
 | [], zs, m, c, _, _, _ => ⟨rfl, rfl⟩
 | s :: L, zs, m, c, hc, hl, hn => by
  have yO := List.nodup_cons.1 hn; have hs := hl s (by simp)
  show match (eS l d s (zs, m, c)).bind (xZ l d L) with
   | none => _
   | some q => _
  rcases hsv : bW l s with _ | _
  ·have ef : ((s :: L).filter fun s => !bW l s) = s :: (L.filter fun s => !bW l s) := by rw [List.filter_cons, if_pos (by rw [hsv]; rfl)]
   rw [ef]; have e1 := aL8 (zs := zs) (m := m) (d := d) hs.1 hs.2; unfold eS; rw [if_neg (by rw [hsv]; decide)]
   dsimp only
   rcases hok : (aK zs m d (kM l s)).ok with _ | _
   ·rw [if_neg (by decide)]
    rw [hok, if_neg (by decide)] at e1
    refine ⟨?_, by simp⟩
    show (if (dM zs m d 3 s 0).1 = 0 then _ else _) = _
    rw [e1]
    rfl
   ·rw [if_pos rfl]
    rw [hok, if_pos rfl] at e1; have ih := aG5 hd L (dH zs d) (bH m d (aK zs m d (kM l s))) 0 (R2 hc hd hok) (fun x hx => by
     have l9 := hl x (by simp [hx])
     have bI : (aK zs m d (kM l s)).item ≠ x := fun e => yO.1 (by
      have e : s = x := e; rw [e]; exact hx)
     exact ⟨(aGg bI).trans l9.1, l9.2⟩) yO.2
    have eu : oV d (s :: L.filter fun s => !bW l s) zs m = oV d (L.filter fun s => !bW l s) (dH zs d) (bH m d (aK zs m d (kM l s))) := by
     show (if (dM zs m d 3 s 0).1 = 0 then _ else _) = _
     rw [e1]
     rfl
    rw [eu]
    show match xZ l d L (dH zs d, bH m d (aK zs m d (kM l s)), 0) with
     | none => _
     | some q => _
    cases hq : xZ l d L (dH zs d, bH m d (aK zs m d (kM l s)), 0) with
    | none => rw [hq] at ih; exact ⟨ih.1, by simp⟩
    | some q =>
     rw [hq] at ih; refine ⟨ih.1, ?_⟩
     have := ih.2; rw [if_neg (by simp), this]
     split <;> rfl
  ·have ef : ((s :: L).filter fun s => !bW l s) = (L.filter fun s => !bW l s) := by rw [List.filter_cons, if_neg (by rw [hsv]; decide)]
   rw [ef]; unfold eS; rw [if_pos hsv]; exact aG5 hd L zs m c hc (fun x hx => hl x (by simp [hx])) yO.2
theorem aFN (l : List aA) (k : Nat) : (bV l k).Nodup := by
 have h := rG l k
 unfold Asc at h
 exact h.imp fun {a b} hab e => by
  subst e; rw [P6] at hab; cases hab
theorem R1 {xs : List Int} {l : List aA} (h : aD xs l = true) {d : Nat} (hd : d < 4) : oW xs l d = if ((bV l l.length).filter fun s => !bW l s) = [] then (2, [], []) else oV d ((bV l l.length).filter fun s => !bW l s) xs l := by
 have hu := aG5 (l := l) hd (bV l l.length) xs l 2 h (fun s hs => ⟨rfl, ((pJ l s l.length).1 hs).1⟩) (aFN l l.length)
 unfold oW
 rw [aB0 xs l d _ _ aRr, List.take_length]
 cases hq : xZ l d (bV l l.length) (xs, l, 2) with
 | none =>
  rw [hq] at hu; rw [if_neg hu.2, hu.1]
 | some q =>
  rw [hq] at hu; have h2 := hu.2
  dsimp only
  split
  ·rename_i h0
   split at h2
   ·omega
   ·rename_i bI
    rw [if_neg bI, hu.1]
  ·rename_i h0
   split at h2
   ·rename_i he
    rw [if_pos he]
   ·exact absurd h2 h0
end Go.Proofs.YthkagbnpcjidfaaGreatDoor
