/- Walks and mathematics that several claims share, part 32. -/
import Derived.Test.YthkagbnpcjidfaaGreatDoorGu25
import Derived.Test.YthkagbnpcjidfaaGreatDoorGu31
import Derived.Deep.Cut
namespace Go.Proofs.YthkagbnpcjidfaaGreatDoor
set_option maxRecDepth 100000
open Go.RowKit
set_option linter.unusedVariables false
set_option linter.unusedSimpArgs false
theorem aCu {xs : List Int} {l : List aA} (h : aE xs l = true) {d : Nat} (hd : d < 4) : putAt (d : Int) l = aO xs (d + 1) := by
 obtain ⟨_, jI, h4⟩ := jQ h
 have N3 := rF (d : Int) l
 have hm : aO xs (d + 1) ≤ l.length := by rw [← h4]; exact jB xs _ _ (by omega)
 rcases Nat.lt_trichotomy (putAt (d : Int) l) (aO xs (d + 1)) with g | g | g
 ·exfalso
  have aJ : putAt (d : Int) l < l.length := by omega
  have he := P8 aJ; obtain ⟨e, he4, h1, h2, _, hde, _⟩ := uP h aJ
  apply he
  rw [hde]; rcases Nat.lt_or_ge d e with q | q
  ·have := jB xs (d + 1) e q; omega
  ·omega
 ·exact g
 ·exfalso
  have aJ : aO xs (d + 1) < l.length := by omega
  have ha := l9 g; obtain ⟨e, he4, h1, h2, _, hde, _⟩ := uP h aJ; rw [hde] at ha; have := jB xs (e + 1) (d + 1) (by omega)
  omega
theorem aK2 {l : List aA} {d i : Nat} (o : aA) (hi : i < putAt (d : Int) l) : aC (cI l d o) i = aC l i := by
 have N3 := rF (d : Int) l
 unfold aC cI
 rw [List.getD_eq_getElem?_getD, List.getD_eq_getElem?_getD, List.append_assoc, List.getElem?_append_left (by rw [List.length_take]; omega), List.getElem?_take_of_lt hi]
theorem put_eq (l : List aA) (d : Nat) (o : aA) : aC (cI l d o) (putAt (d : Int) l) = o := by
 have N3 := rF (d : Int) l
 unfold aC cI
 rw [List.getD_eq_getElem?_getD, List.append_assoc, List.getElem?_append_right (by rw [List.length_take]; omega), List.length_take, Nat.min_eq_left N3, Nat.sub_self]
 rfl
theorem aK3 {l : List aA} {d i : Nat} (o : aA) (hi : putAt (d : Int) l ≤ i) : aC (cI l d o) (i + 1) = aC l i := by
 have N3 := rF (d : Int) l
 unfold aC cI
 rw [List.getD_eq_getElem?_getD, List.getD_eq_getElem?_getD, List.append_assoc, List.getElem?_append_right (by rw [List.length_take]; omega), List.length_take, Nat.min_eq_left N3, show i + 1 - putAt (d : Int) l = (i - putAt (d : Int) l) + 1 by omega]
 show (([o] ++ l.drop (putAt (d : Int) l))[(i - putAt (d : Int) l) + 1]?).getD _ = _
 rw [List.getElem?_append_right (by show 1 ≤ _; omega)]
 show ((l.drop (putAt (d : Int) l))[(i - putAt (d : Int) l) + 1 - 1]?).getD _ = _
 rw [List.getElem?_drop]
 congr 2
 omega
theorem aBb {xs : List Int} {d e : Nat} (hl : xs.length = 4) (hd : d < 4) : (eE xs d).getD e 0 = if d = e then xs.getD d 0 + 1 else xs.getD e 0 := by
 unfold eE
 exact jZ (by omega)
theorem aCo {xs : List Int} {d : Nat} (hl : xs.length = 4) (hd : d < 4) (h0 : 0 ≤ xs.getD d 0) : ∀ e, aO (eE xs d) e = if e ≤ d then aO xs e else aO xs e + 1
 | 0 => by rw [if_pos (Nat.zero_le _)]; rfl
 | e + 1 => by
  show aO (eE xs d) e + ((eE xs d).getD e 0).toNat = _
  rw [aCo hl hd h0 e, aBb hl hd]; have hs : aO xs (e + 1) = aO xs e + (xs.getD e 0).toNat := rfl; rcases Nat.lt_trichotomy e d with g | g | g
  ·rw [if_pos (by omega : e ≤ d), if_neg (by omega : ¬ d = e), if_pos (by omega : e + 1 ≤ d), hs]
  ·subst g
   rw [if_pos (Nat.le_refl e), if_pos rfl, if_neg (by omega : ¬ e + 1 ≤ e), hs]
   omega
  ·rw [if_neg (by omega : ¬ e ≤ d), if_neg (by omega : ¬ d = e), if_neg (by omega : ¬ e + 1 ≤ d), hs]
   omega
theorem I0 (l : List aA) : ∀ k i, i < k → (aC l i).stamp ≤ cZ l k
 | k + 1, i, h => by
  rw [cZ]; rcases Nat.lt_or_ge i k with g | g
  ·have := I0 l k i g; omega
  ·obtain rfl : i = k := by omega
   omega
theorem xK {xs : List Int} {l : List aA} {d : Nat} : iQ xs l d = true ↔ aO xs (d + 1) ≤ l.length ∧ ∀ s, s < (xs.getD d 0).toNat → kD l d (aO xs d) s = true := by
 unfold iQ lP
 simp only [Bool.and_eq_true, decide_eq_true_eq, List.all_eq_true, List.mem_range]
theorem aHA {xs : List Int} (hl : xs.length = 4) (h : ∀ d, d < 4 → 0 ≤ xs.getD d 0 ∧ xs.getD d 0 ≤ 40) : cJ xs = true := by
 unfold cJ
 rw [Bool.and_eq_true]
 refine ⟨?_, decide_eq_true hl⟩
 rw [List.all_eq_true]
 intro x hx
 obtain ⟨i, hi, e⟩ := List.mem_iff_getElem.1 hx
 have e2 : xs.getD i 0 = x := by rw [List.getD_eq_getElem?_getD, List.getElem?_eq_getElem hi]; exact e
 have := h i (by omega)
 rw [← e2]
 unfold sR
 rw [Bool.and_eq_true]
 exact ⟨decide_eq_true (by omega), decide_eq_true (by omega)⟩
theorem q7 {xs : List Int} {l : List aA} (h : aE xs l = true) {d : Nat} (hd : d < 4) {o : aA} (hok : (aQ xs l d o).ok = true) : aE (eE xs d) (cI l d (aQ xs l d o)) = true := by
 obtain ⟨hv, jI, h4⟩ := jQ h
 have hl := (fU hv (d := 0) (by omega)).2.2
 have hxd := fU hv hd
 have hb := dK hok
 have aIq : (aQ xs l d o).seq = xs.getD d 0 + 1 := rfl
 have aNX : (aQ xs l d o).dev = (d : Int) := rfl
 have dF : (aQ xs l d o).stamp = cZ l l.length + 1 := rfl
 have hp := aCu h hd
 have hlp : (cI l d (aQ xs l d o)).length = l.length + 1 := uD l d _
 have hd1 : aO xs (d + 1) = aO xs d + (xs.getD d 0).toNat := rfl
 have aO6 : aO xs (d + 1) ≤ l.length := by rw [← h4]; exact jB xs _ _ (by omega)
 have hs := aCo hl hd hxd.1
 have aJ := fun i => aK2 (l := l) (d := d) (i := i) (aQ xs l d o)
 have heq := put_eq l d (aQ xs l d o)
 have hgt := fun i => aK3 (l := l) (d := d) (i := i) (aQ xs l d o)
 generalize aQ xs l d o = x at *
 rw [hp] at aJ heq hgt
 have hvo : cJ (eE xs d) = true := aHA (by unfold eE; rw [List.length_set]; exact hl) fun e he => by
  rw [aBb hl hd]; have := fU hv he
  split <;> omega
 unfold aE
 rw [Bool.and_eq_true, Bool.and_eq_true]
 refine ⟨hvo, ?_, ?_⟩
 ·rw [List.all_eq_true]
  intro e he
  have he : e < 4 := List.mem_range.1 he; have hE := xK.1 (jI e he); rw [xK, hs e, hs (e + 1), hlp, aBb hl hd]; have eK : aO xs (e + 1) = aO xs e + (xs.getD e 0).toNat := rfl; refine ⟨by split <;> omega, fun s hsl => ?_⟩
  rcases Nat.lt_trichotomy e d with g | g | g
  ·rw [if_neg (by omega)] at hsl
   rw [if_pos (by omega)]
   have hm := jB xs (e + 1) d g; obtain ⟨f1, f2, f3, f4⟩ := jO (hE.2 s hsl); have e1 := aJ (aO xs e + s) (by omega)
   refine rY (by rw [e1]; exact f1) (by rw [e1]; exact f2) (by rw [e1]; exact f3) ?_
   rw [e1]; unfold dO at f4 ⊢
   split
   ·rename_i h0; rw [if_pos h0] at f4; exact f4
   ·rename_i h0; rw [if_neg h0] at f4; rw [aJ _ (by omega)]; exact f4
  ·subst g
   rw [if_pos rfl] at hsl; rw [if_pos aPq]; rcases Nat.lt_or_ge s (xs.getD e 0).toNat with q | q
   ·obtain ⟨f1, f2, f3, f4⟩ := jO (hE.2 s q)
    have e1 := aJ (aO xs e + s) (by omega)
    refine rY (by rw [e1]; exact f1) (by rw [e1]; exact f2) (by rw [e1]; exact f3) ?_
    rw [e1]; unfold dO at f4 ⊢
    split
    ·rename_i h0; rw [if_pos h0] at f4; exact f4
    ·rename_i h0; rw [if_neg h0] at f4; rw [aJ _ (by omega)]; exact f4
   ·have e0 : aO xs e + s = aO xs (e + 1) := by omega
    have e1 : aC (cI l e x) (aO xs e + s) = x := by rw [e0]; exact heq
    refine rY (by rw [e1]; exact hok) (by rw [e1]; exact aNX) (by rw [e1, aIq]; omega) ?_
    rw [e1, dF]; have hsp := oN l l.length; unfold dO
    split
    ·omega
    ·rename_i h0
     rw [aJ _ (by omega)]
     have := I0 l l.length (aO xs e + s - 1) (by omega)
     omega
  ·rw [if_neg (by omega)] at hsl
   rw [if_neg (by omega)]
   have hm := jB xs (d + 1) e g; obtain ⟨f1, f2, f3, f4⟩ := jO (hE.2 s hsl); have e1 : aC (cI l d x) (aO xs e + 1 + s) = aC l (aO xs e + s) := by
    rw [show aO xs e + 1 + s = aO xs e + s + 1 by omega]
    exact hgt _ (by omega)
   refine rY (by rw [e1]; exact f1) (by rw [e1]; exact f2) (by rw [e1]; exact f3) ?_
   rw [e1]; unfold dO at f4 ⊢
   split
   ·rename_i h0; rw [if_pos h0] at f4; exact f4
   ·rename_i h0
    rw [if_neg h0] at f4; rw [show aO xs e + 1 + s - 1 = aO xs e + s - 1 + 1 by omega, hgt _ (by omega)]
    exact f4
 ·rw [decide_eq_true_eq, hs 4, hlp, if_neg (by omega)]
  omega
theorem aIR {xs : List Int} {l : List aA} (h : aE xs l = true) {i : Nat} (hi : i < l.length) (hu : (aC l i).undos ≠ 50) : aE xs (lO l i) = true := by
 obtain ⟨hv, jI, h4⟩ := jQ h
 have hl := rB l i
 have hat : ∀ j, aC (lO l i) j = if i = j then I5 (aC l i) else aC l j := fun j => by
  unfold lO aC; exact jZ hi
 have hub := dK (eU h hi)
 have dF : ∀ j, (aC (lO l i) j).stamp = (aC l j).stamp := fun j => by
  rw [hat]
  split
  ·rename_i e; subst e; rfl
  ·rfl
 unfold aE
 rw [Bool.and_eq_true, Bool.and_eq_true]
 refine ⟨hv, ?_, ?_⟩
 ·rw [List.all_eq_true]
  intro e he
  have he : e < 4 := List.mem_range.1 he; have hE := xK.1 (jI e he); rw [xK, hl]; refine ⟨hE.1, fun s hs => ?_⟩
  obtain ⟨f1, f2, f3, f4⟩ := jO (hE.2 s hs); have hpv : dO (lO l i) (aO xs e) s = dO l (aO xs e) s := by
   unfold dO
   split
   ·rfl
   ·exact dF _
  refine rY ?_ ?_ ?_ (by rw [hpv, dF]; exact f4)
  all_goals
   rw [hat]
   split
  ·rename_i e2
   subst e2; exact aEx (a := aC l (aO xs e + s)) f1 (u := (aC l (aO xs e + s)).undos + 1) (by omega) (by omega)
  ·exact f1
  ·rename_i e2; subst e2; exact f2
  ·exact f2
  ·rename_i e2; subst e2; exact f3
  ·exact f3
 ·rw [decide_eq_true_eq, hl]; exact h4
def aBo (x : ByteArray) (l : List aA) : Int := l.foldl (fun a o => if o.item = x ∧ o.undos % 2 = 0 then max a o.level else a) 0
theorem aBC {l : List aA} {k : Nat} (h : k < l.length) : l.take (k + 1) = l.take k ++ [l.getD k aA.zero] := by
 rw [List.take_succ_eq_append_getElem h, List.getD_eq_getElem?_getD, List.getElem?_eq_getElem h]; rfl
theorem aCK (x : ByteArray) (l : List aA) : ∀ k, k ≤ l.length → aI x l k = aBo x (l.take k)
 | 0, _ => rfl
 | k + 1, h => by
  rw [aI, aBC (by omega), aCK x l k (by omega)]
  unfold aBo; rw [List.foldl_append]
  rfl
def Y1 (P : Int → Bool) (x : ByteArray) (l : List aA) : aA := l.foldl (fun b o => if (P o.kind = true ∧ o.item = x ∧ o.undos % 2 = 0) ∧ (b.kind = 0 ∨ oQ b o = true) then o else b) aA.zero
theorem aB3 (P : Int → Bool) (x : ByteArray) (l : List aA) : ∀ k, k ≤ l.length → bE P x l k = Y1 P x (l.take k)
 | 0, _ => rfl
 | k + 1, h => by
  rw [bE, aBC (by omega), aB3 P x l k (by omega)]
  unfold Y1; rw [List.foldl_append]
  rfl
theorem X7 (x : ByteArray) (l : List aA) : aI x l l.length = aBo x l := by rw [aCK x l _ aPq, List.take_length]
theorem zB (P : Int → Bool) (x : ByteArray) (l : List aA) : bE P x l l.length = Y1 P x l := by rw [aB3 P x l _ aPq, List.take_length]
theorem aEB {x : ByteArray} {l : List aA} {d : Nat} {o : aA} (h : o.item ≠ x) : aI x (cI l d o) (cI l d o).length = aI x l l.length := by
 rw [X7, X7]
 have e : l = l.take (putAt (d : Int) l) ++ l.drop (putAt (d : Int) l) := (List.take_append_drop _ _).symm
 show aBo x (l.take (putAt (d : Int) l) ++ [o] ++ l.drop (putAt (d : Int) l)) = aBo x l
 conv => rhs; rw [e]
 unfold aBo
 rw [List.foldl_append, List.foldl_append, List.foldl_append]
 congr 1
 show (if o.item = x ∧ o.undos % 2 = 0 then _ else _) = _
 rw [if_neg (fun q => h q.1)]
theorem aDk {P : Int → Bool} {x : ByteArray} {l : List aA} {d : Nat} {o : aA} (h : o.item ≠ x) : bE P x (cI l d o) (cI l d o).length = bE P x l l.length := by
 rw [zB, zB]
 have e : l = l.take (putAt (d : Int) l) ++ l.drop (putAt (d : Int) l) := (List.take_append_drop _ _).symm
 show Y1 P x (l.take (putAt (d : Int) l) ++ [o] ++ l.drop (putAt (d : Int) l)) = Y1 P x l
 conv => rhs; rw [e]
 unfold Y1
 rw [List.foldl_append, List.foldl_append, List.foldl_append]
 congr 1
 show (if (P o.kind = true ∧ o.item = x ∧ o.undos % 2 = 0) ∧ _ then _ else _) = _
 rw [if_neg (fun q => h q.1.2.1)]
theorem aGo {xs : List Int} {l : List aA} (h : aE xs l = true) {d : Nat} (hd : d < 4) {s : Int} (h1 : 1 ≤ s) (h2 : s ≤ xs.getD d 0) : (aO xs d + (s.toNat - 1)) < l.length ∧ nameAt l (d : Int) s = aO xs d + (s.toNat - 1) := by
 obtain ⟨a, b⟩ := zA h hd (s := s.toNat - 1) (by omega)
 refine ⟨a, aBh h a b.1 ?_⟩
 rw [b.2]
 omega
theorem aHJ {xs : List Int} {l : List aA} (h : aE xs l = true) {d : Nat} (hd : d < 4) {s : Int} (hs : ¬ (1 ≤ s ∧ s ≤ xs.getD d 0)) : ¬ nameAt l (d : Int) s < l.length := aBI fun j hj ⟨e1, e2⟩ => by
 obtain ⟨e, he, a1, a2, _, a3, a4⟩ := uP h hj
 have hde : d = e := by rw [a3] at e1; omega
 subst hde
 have hv := fU (jQ h).1 hd
 have : aO xs (d + 1) = aO xs d + (xs.getD d 0).toNat := rfl
 rw [a4] at e2
 omega
set_option maxHeartbeats 20000000 in
theorem aAp (w : World) (B : Nat) (a : Option Addr) (n cap : Nat) (l : List aA) (h : bP w B a n l) (hB : B ≤ w.heap.size) (hn : n ≤ 1048576) : Calls Tryz.prog 154 #[.slice a n cap] w fun e w' => e = .returned (.int .i64 (cZ l l.length)) ∧ Below w.heap.size w w' := by
 have H := aPo h
 have HL := aPo h.1
 clear h
 go_enter Tryz.func154, Tryz.ntmps154
 go_wp2
 go_loopw [3, 8] (fun s i wr => ∃ k : Nat, k ≤ n ∧ i = .int .i64 (k : Int) ∧ s = .int .i64 (cZ l k) ∧ Hid (Below w.heap.size w wr)) (fun _ i _ => n - (intOf i).toNat)
 case atStart => exact ⟨0, Nat.zero_le _, rfl, rfl, Below.refl _ _⟩
 case round =>
  obtain ⟨k, hk, rfl, rfl, HB⟩ := hrel
  by_cases aJ : k < n
  rotate_left
  ·obtain rfl : k = n := by omega
   go_wp2
   go_ret
   exact ⟨by rw [HL.out]; rfl, HB.out⟩
  obtain ⟨b, off, rfl, hb, ho⟩ := H.out.2 k aJ; obtain ⟨c0, c1, c2, c3, c4, c5, c6, c7⟩ := ho.kept (HB.out.block b (by omega))
  clear ho; have HU : Hid (cZ l (k + 1) = max (cZ l k) (l.getD k aA.zero).stamp) := rfl; generalize l.getD k aA.zero = x at HU c0 c1 c2 c3 c4 c5 c6 c7; generalize dF : cZ l k = st at HU ⊢; clear dF
  go_upto_region 5 with fail
  have HX := aPo (bX (Below.refl _ (wr.alloc (.cells #[.int .i64 x.dev, .int .i64 x.seq, .int .i64 x.stamp, .int .i64 x.kind, .string x.item, .int .i64 x.qty, .int .i64 x.level, .int .i64 x.undos] 50)))); have cU := aPo (HB.out.alloc HB.out.size (.cells #[.int .i64 x.dev, .int .i64 x.seq, .int .i64 x.stamp, .int .i64 x.kind, .string x.item, .int .i64 x.qty, .int .i64 x.level, .int .i64 x.undos] 50)); generalize wr.alloc (.cells #[.int .i64 x.dev, .int .i64 x.seq, .int .i64 x.stamp, .int .i64 x.kind, .string x.item, .int .i64 x.qty, .int .i64 x.level, .int .i64 x.undos] 50) = w1 at HX cU ⊢; generalize wr.heap.size = bo at HX ⊢; clear c0 c1 c2 c3 c4 c5 c6 c7 HB; obtain ⟨d0, d1, d2, d3, d4, d5, d6, d7⟩ := aN HX.out; go_wp2
  go_roundw
  case rel => exact ⟨k + 1, by omega, by go_num, by rw [HU.out], cU⟩
  case measure => simp [intOf]; omega
set_option maxHeartbeats 20000000 in
theorem uF (w : World) (B : Nat) (av ao : Option Addr) (cv no co d : Nat) (xs : List Int) (hx : Ints w B av 4 xs) (hB : B ≤ w.heap.size) (bW : 4 ≤ cv) (hd : d < 4) (hv : cJ xs = true) (s : Int) (h1 : 1 ≤ s) (h2 : s ≤ 1000) :
  Calls Tryz.prog 72 #[.agg #[.slice av 4 cv, .slice ao no co], .int .i64 (d : Int), .int .i64 s] w fun e w' => e = .returned (.int .i64 ((aO xs d + (s.toNat - 1) : Nat) : Int)) ∧ Below w.heap.size w w' := by
 have bD : Below w.heap.size w (w.alloc (.cells #[.slice av 4 cv, .slice ao no co] 27)) := (Below.refl _ w).alloc aPq _
 have HV := aPo (hx.below bD hB)
 have HB := aPo bD
 have HX := aPo (bX (Below.refl _ (w.alloc (.cells #[.slice av 4 cv, .slice ao no co] 27))))
 have HVo := aPo hv
 clear hx bD hv
 obtain ⟨b, off, hav, _⟩ := HV.out.2 0 (by omega)
 subst hav
 go_enter Tryz.func72, Tryz.ntmps72
 go_upto_region 1 with fail
 generalize w.alloc (.cells #[.slice (some ⟨b, off, none⟩) 4 cv, .slice ao no co] 27) = w0 at HV HB HX ⊢
 obtain ⟨c0, c1⟩ := pair_cells HX.out
 have hdi : (d : Int) ≤ 4 := by omega
 have hdc : (d : Int) ≤ (cv : Int) := by omega
 have hws : IntKind.i64.wrap (s - 1) = s - 1 := IntWalk.i64_in _ (by omega)
 go_wp2
 go_loopw [7, 17] (fun p i wr => ∃ k : Nat, k ≤ d ∧ i = .int .i64 (k : Int) ∧ p = .int .i64 (s - 1 + (aO xs k : Int)) ∧ wr = w0) (fun _ i _ => d - (intOf i).toNat)
 case atStart => exact ⟨0, Nat.zero_le _, rfl, by show _ = Value.int .i64 (s - 1 + ((0 : Nat) : Int)); simp, rfl⟩
 case round =>
  obtain ⟨k, hk, rfl, rfl, rfl⟩ := hrel
  by_cases aJ : k < d
  rotate_left
  ·obtain rfl : k = d := by omega
   have he : s - 1 + (aO xs k : Int) = ((aO xs k + (s.toNat - 1) : Nat) : Int) := by omega
   rw [he]; go_wp2
   go_ret
   exact ⟨rfl, HB.out⟩
  obtain ⟨b', o', e, hb, hc⟩ := HV.out.2 k (by omega)
  injection e with e; injection e with e1 e2; subst e1 e2; have hvk := fU HVo.out (d := k) (by omega)
  have hsk := X1 HVo.out k (by omega)
  have aJo : (aO xs (k + 1) : Int) = (aO xs k : Int) + xs.getD k 0 := by
   show ((aO xs k + (xs.getD k 0).toNat : Nat) : Int) = _
   omega
  have cM := aPo aJo; clear aJo; have hki : (k : Int) < (d : Int) := by omega
  generalize xs.getD k 0 = y at hc hvk cM; generalize hq : (aO xs k : Int) = q at cM ⊢; have N2 : 0 ≤ q ∧ q ≤ 160 := by omega
  clear hq hsk; have hwp : IntKind.i64.wrap (s - 1 + q + y) = s - 1 + q + y := IntWalk.i64_in _ (by omega)
  go_wp2
  go_roundw
  case rel => exact ⟨k + 1, by omega, by go_num, by rw [cM.out]; congr 1; omega, trivial⟩
  case measure => simp [intOf]; omega
theorem Q2 {xs : List Int} {l : List aA} (h : aE xs l = true) {d : Nat} (hd : d < 4) {kind : Int} {item : ByteArray} {qty : Int} (h0 : (dL xs l d kind item qty).1 = 0) : aE (dL xs l d kind item qty).2.1 (dL xs l d kind item qty).2.2 = true := by
 unfold dL at h0 ⊢
 dsimp only at h0 ⊢
 split at h0
 ·rename_i h1
  rw [if_pos h1]
  split at h0
  ·rename_i h2
   rw [if_pos h2]; exact q7 h hd h2
  ·cases h0
 ·rename_i h1
  exact absurd h0 h1
def rI (d : Nat) : List ByteArray → List Int → List aA → Int × List Int × List aA
 | [], zs, m => (0, zs, m)
 | s :: U, zs, m => if (dL zs m d 3 s 0).1 = 0 then rI d U (dL zs m d 3 s 0).2.1 (dL zs m d 3 s 0).2.2 else ((dL zs m d 3 s 0).1, [], [])
def wI (l : List aA) (d : Nat) : List ByteArray → List Int × List aA × Int → Option (List Int × List aA × Int)
 | [], q => some q
 | s :: L, q => (eT l d s q).bind (wI l d L)
theorem aBZ (l : List aA) (d : Nat) (s : ByteArray) : ∀ (A : List ByteArray) (q : List Int × List aA × Int), wI l d (A ++ [s]) q = (wI l d A q).bind (eT l d s)
 | [], q => by
  show (eT l d s q).bind (wI l d []) = eT l d s q
  cases eT l d s q <;> rfl
 | a :: A, q => by
  show (eT l d a q).bind (wI l d (A ++ [s])) = ((eT l d a q).bind (wI l d A)).bind (eT l d s)
  cases eT l d a q with
  | none => rfl
  | some q' => exact aBZ l d s A q'
theorem aAy (xs : List Int) (l : List aA) (d : Nat) (L : List ByteArray) : ∀ k, k ≤ L.length → gY xs l d L k = wI l d (L.take k) (xs, l, 2)
 | 0, _ => rfl
 | k + 1, h => by
  have e : L.take (k + 1) = L.take k ++ [L.getD k ⟨#[]⟩] := by
   rw [List.take_succ_eq_append_getElem (by omega), List.getD_eq_getElem?_getD, List.getElem?_eq_getElem (by omega)]; rfl
  rw [e, aBZ, ← aAy xs l d L k (by omega)]
  rfl
theorem aKe {zs : List Int} {m l : List aA} {d : Nat} {s : ByteArray} (h1 : aI s m m.length = aI s l l.length) (h2 : aI s l l.length % 2 = 1) : dL zs m d 3 s 0 = if (aQ zs m d (kJ l s)).ok = true then (0, eE zs d, cI m d (aQ zs m d (kJ l s))) else (4, [], []) := by
 unfold dL
 have e : oneOf (aI s m m.length) (bN m s) 3 s 0 = (kJ l s, 0) := by
  unfold oneOf kJ; rw [h1, if_neg (by decide), if_pos h2, if_neg (by decide), if_pos rfl]
 dsimp only
 rw [e]
 dsimp only
 rw [if_pos rfl]
theorem aFw {l : List aA} {d : Nat} (hd : d < 4) : ∀ (L : List ByteArray) (zs : List Int) (m : List aA) (c : Int), aE zs m = true → (∀ s, s ∈ L → aI s m m.length = aI s l l.length ∧ aI s l l.length % 2 = 1) → L.Nodup →
  match wI l d L (zs, m, c) with
  | none => rI d (L.filter fun s => !bN l s) zs m = (4, [], []) ∧ (L.filter fun s => !bN l s) ≠ []
  | some q => rI d (L.filter fun s => !bN l s) zs m = (0, q.1, q.2.1) ∧ q.2.2 = (if (L.filter fun s => !bN l s) = [] then c else 0)
 | [], zs, m, c, _, _, _ => ⟨rfl, rfl⟩
 | s :: L, zs, m, c, hc, hl, hn => by
  have A4 := List.nodup_cons.1 hn; have hs := hl s (by simp)
  show match (eT l d s (zs, m, c)).bind (wI l d L) with
   | none => _
   | some q => _
  rcases hsv : bN l s with _ | _
  ·have ef : ((s :: L).filter fun s => !bN l s) = s :: (L.filter fun s => !bN l s) := by rw [List.filter_cons, if_pos (by rw [hsv]; rfl)]
   rw [ef]; have e1 := aKe (zs := zs) (m := m) (d := d) hs.1 hs.2; unfold eT; rw [if_neg (by rw [hsv]; decide)]
   dsimp only
   rcases hok : (aQ zs m d (kJ l s)).ok with _ | _
   ·rw [if_neg (by decide)]
    rw [hok, if_neg (by decide)] at e1
    refine ⟨?_, by simp⟩
    show (if (dL zs m d 3 s 0).1 = 0 then _ else _) = _
    rw [e1]
    rfl
   ·rw [if_pos rfl]
    rw [hok, if_pos rfl] at e1; have ih := aFw hd L (eE zs d) (cI m d (aQ zs m d (kJ l s))) 0 (q7 hc hd hok) (fun x hx => by
     have S2 := hl x (by simp [hx])
     have bO : (aQ zs m d (kJ l s)).item ≠ x := fun e => A4.1 (by
      have e : s = x := e; rw [e]; exact hx)
     exact ⟨(aEB bO).trans S2.1, S2.2⟩) A4.2
    have eu : rI d (s :: L.filter fun s => !bN l s) zs m = rI d (L.filter fun s => !bN l s) (eE zs d) (cI m d (aQ zs m d (kJ l s))) := by
     show (if (dL zs m d 3 s 0).1 = 0 then _ else _) = _
     rw [e1]
     rfl
    rw [eu]
    show match wI l d L (eE zs d, cI m d (aQ zs m d (kJ l s)), 0) with
     | none => _
     | some q => _
    cases hq : wI l d L (eE zs d, cI m d (aQ zs m d (kJ l s)), 0) with
    | none => rw [hq] at ih; exact ⟨ih.1, by simp⟩
    | some q =>
     rw [hq] at ih; refine ⟨ih.1, ?_⟩
     have := ih.2; rw [if_neg (by simp), this]
     split <;> rfl
  ·have ef : ((s :: L).filter fun s => !bN l s) = (L.filter fun s => !bN l s) := by rw [List.filter_cons, if_neg (by rw [hsv]; decide)]
   rw [ef]; unfold eT; rw [if_pos hsv]; exact aFw hd L zs m c hc (fun x hx => hl x (by simp [hx])) A4.2
theorem aEb (l : List aA) (k : Nat) : (bU l k).Nodup := by
 have h := qP l k
 unfold Asc at h
 exact h.imp fun {a b} hab e => by
  subst e; rw [yH] at hab; cases hab
theorem p9 {xs : List Int} {l : List aA} (h : aE xs l = true) {d : Nat} (hd : d < 4) : qK xs l d = if ((bU l l.length).filter fun s => !bN l s) = [] then (2, [], []) else rI d ((bU l l.length).filter fun s => !bN l s) xs l := by
 have hu := aFw (l := l) hd (bU l l.length) xs l 2 h (fun s hs => ⟨rfl, ((mP l s l.length).1 hs).1⟩) (aEb l l.length)
 unfold qK
 rw [aAy xs l d _ _ aPq, List.take_length]
 cases hq : wI l d (bU l l.length) (xs, l, 2) with
 | none =>
  rw [hq] at hu; rw [if_neg hu.2, hu.1]
 | some q =>
  rw [hq] at hu; have h2 := hu.2
  dsimp only
  split
  ·rename_i h0
   split at h2
   ·omega
   ·rename_i bO
    rw [if_neg bO, hu.1]
  ·rename_i h0
   split at h2
   ·rename_i he
    rw [if_pos he]
   ·exact absurd h2 h0
end Go.Proofs.YthkagbnpcjidfaaGreatDoor
