/- Walks and mathematics that several claims share, part 33. -/
import Derived.Test.YthkagbnpcjidfaaGreatDoorGp26
import Derived.Test.YthkagbnpcjidfaaGreatDoorGp32
import Derived.Deep.Cut
namespace Go.Proofs.YthkagbnpcjidfaaGreatDoor
set_option maxRecDepth 100000
open Go.RowKit
set_option linter.unusedVariables false
set_option linter.unusedSimpArgs false
theorem aCs {xs : List Int} {l : List aA} (h : aD xs l = true) {d : Nat} (hd : d < 4) : putAt (d : Int) l = aL xs (d + 1) := by
 obtain ⟨_, gJ, h4⟩ := fX h
 have wP := oE (d : Int) l
 have hm : aL xs (d + 1) ≤ l.length := by rw [← h4]; exact hC xs _ _ (by omega)
 rcases Nat.lt_trichotomy (putAt (d : Int) l) (aL xs (d + 1)) with g | g | g
 ·exfalso
  have aK : putAt (d : Int) l < l.length := by omega
  have he := P4 aK; obtain ⟨e, he4, h1, h2, _, hde, _⟩ := pW h aK
  apply he
  rw [hde]; rcases Nat.lt_or_ge d e with q | q
  ·have := hC xs (d + 1) e q; omega
  ·omega
 ·exact g
 ·exfalso
  have aK : aL xs (d + 1) < l.length := by omega
  have ha := m7 g; obtain ⟨e, he4, h1, h2, _, hde, _⟩ := pW h aK; rw [hde] at ha; have := hC xs (e + 1) (d + 1) (by omega)
  omega
theorem aKV {l : List aA} {d i : Nat} (o : aA) (hi : i < putAt (d : Int) l) : aB (bN l d o) i = aB l i := by
 have wP := oE (d : Int) l
 unfold aB bN
 rw [List.getD_eq_getElem?_getD, List.getD_eq_getElem?_getD, List.append_assoc, List.getElem?_append_left (by rw [List.length_take]; omega), List.getElem?_take_of_lt hi]
theorem put_eq (l : List aA) (d : Nat) (o : aA) : aB (bN l d o) (putAt (d : Int) l) = o := by
 have wP := oE (d : Int) l
 unfold aB bN
 rw [List.getD_eq_getElem?_getD, List.append_assoc, List.getElem?_append_right (by rw [List.length_take]; omega), List.length_take, Nat.min_eq_left wP, Nat.sub_self]
 rfl
theorem aKW {l : List aA} {d i : Nat} (o : aA) (hi : putAt (d : Int) l ≤ i) : aB (bN l d o) (i + 1) = aB l i := by
 have wP := oE (d : Int) l
 unfold aB bN
 rw [List.getD_eq_getElem?_getD, List.getD_eq_getElem?_getD, List.append_assoc, List.getElem?_append_right (by rw [List.length_take]; omega), List.length_take, Nat.min_eq_left wP, show i + 1 - putAt (d : Int) l = (i - putAt (d : Int) l) + 1 by omega]
 show (([o] ++ l.drop (putAt (d : Int) l))[(i - putAt (d : Int) l) + 1]?).getD _ = _
 rw [List.getElem?_append_right (by show 1 ≤ _; omega)]
 show ((l.drop (putAt (d : Int) l))[(i - putAt (d : Int) l) + 1 - 1]?).getD _ = _
 rw [List.getElem?_drop]
 congr 2
 omega
theorem E2 {xs : List Int} {d e : Nat} (hl : xs.length = 4) (hd : d < 4) : (dF xs d).getD e 0 = if d = e then xs.getD d 0 + 1 else xs.getD e 0 := by
 unfold dF
 exact gZ (by omega)
theorem aCl {xs : List Int} {d : Nat} (hl : xs.length = 4) (hd : d < 4) (h0 : 0 ≤ xs.getD d 0) : ∀ e, aL (dF xs d) e = if e ≤ d then aL xs e else aL xs e + 1
 | 0 => by rw [if_pos (Nat.zero_le _)]; rfl
 | e + 1 => by
  show aL (dF xs d) e + ((dF xs d).getD e 0).toNat = _
  rw [aCl hl hd h0 e, E2 hl hd]; have hs : aL xs (e + 1) = aL xs e + (xs.getD e 0).toNat := rfl; rcases Nat.lt_trichotomy e d with g | g | g
  ·rw [if_pos (by omega : e ≤ d), if_neg (by omega : ¬ d = e), if_pos (by omega : e + 1 ≤ d), hs]
  ·subst g
   rw [if_pos (Nat.le_refl e), if_pos rfl, if_neg (by omega : ¬ e + 1 ≤ e), hs]
   omega
  ·rw [if_neg (by omega : ¬ e ≤ d), if_neg (by omega : ¬ d = e), if_neg (by omega : ¬ e + 1 ≤ d), hs]
   omega
theorem G6 (l : List aA) : ∀ k i, i < k → (aB l i).stamp ≤ cY l k
 | k + 1, i, h => by
  rw [cY]; rcases Nat.lt_or_ge i k with g | g
  ·have := G6 l k i g; omega
  ·obtain rfl : i = k := by omega
   omega
theorem xJ {xs : List Int} {l : List aA} {d : Nat} : iF xs l d = true ↔ aL xs (d + 1) ≤ l.length ∧ ∀ s, s < (xs.getD d 0).toNat → jT l d (aL xs d) s = true := by
 unfold iF kR
 simp only [Bool.and_eq_true, decide_eq_true_eq, List.all_eq_true, List.mem_range]
theorem aHi {xs : List Int} (hl : xs.length = 4) (h : ∀ d, d < 4 → 0 ≤ xs.getD d 0 ∧ xs.getD d 0 ≤ 40) : cG xs = true := by
 unfold cG
 rw [Bool.and_eq_true]
 refine ⟨?_, decide_eq_true hl⟩
 rw [List.all_eq_true]
 intro x hx
 obtain ⟨i, hi, e⟩ := List.mem_iff_getElem.1 hx
 have e2 : xs.getD i 0 = x := by rw [List.getD_eq_getElem?_getD, List.getElem?_eq_getElem hi]; exact e
 have := h i (by omega)
 rw [← e2]
 unfold sZ
 rw [Bool.and_eq_true]
 exact ⟨decide_eq_true (by omega), decide_eq_true (by omega)⟩
theorem J7 {xs : List Int} {l : List aA} (h : aD xs l = true) {d : Nat} (hd : d < 4) {o : aA} (hok : (aN xs l d o).ok = true) : aD (dF xs d) (bN l d (aN xs l d o)) = true := by
 obtain ⟨hv, gJ, h4⟩ := fX h
 have hl := (eM hv (d := 0) (by omega)).2.2
 have hxd := eM hv hd
 have hb := dG hok
 have aE2 : (aN xs l d o).seq = xs.getD d 0 + 1 := rfl
 have aN0 : (aN xs l d o).dev = (d : Int) := rfl
 have eB : (aN xs l d o).stamp = cY l l.length + 1 := rfl
 have hp := aCs h hd
 have hlp : (bN l d (aN xs l d o)).length = l.length + 1 := rL l d _
 have hd1 : aL xs (d + 1) = aL xs d + (xs.getD d 0).toNat := rfl
 have aPd : aL xs (d + 1) ≤ l.length := by rw [← h4]; exact hC xs _ _ (by omega)
 have hs := aCl hl hd hxd.1
 have aK := fun i => aKV (l := l) (d := d) (i := i) (aN xs l d o)
 have heq := put_eq l d (aN xs l d o)
 have hgt := fun i => aKW (l := l) (d := d) (i := i) (aN xs l d o)
 generalize aN xs l d o = x at *
 rw [hp] at aK heq hgt
 have hvo : cG (dF xs d) = true := aHi (by unfold dF; rw [List.length_set]; exact hl) fun e he => by
  rw [E2 hl hd]; have := eM hv he
  split <;> omega
 unfold aD
 rw [Bool.and_eq_true, Bool.and_eq_true]
 refine ⟨hvo, ?_, ?_⟩
 ·rw [List.all_eq_true]
  intro e he
  have he : e < 4 := List.mem_range.1 he; have hE := xJ.1 (gJ e he); rw [xJ, hs e, hs (e + 1), hlp, E2 hl hd]; have eH : aL xs (e + 1) = aL xs e + (xs.getD e 0).toNat := rfl; refine ⟨by split <;> omega, fun s hsl => ?_⟩
  rcases Nat.lt_trichotomy e d with g | g | g
  ·rw [if_neg (by omega)] at hsl
   rw [if_pos (by omega)]
   have hm := hC xs (e + 1) d g; obtain ⟨f1, f2, f3, f4⟩ := jS (hE.2 s hsl); have e1 := aK (aL xs e + s) (by omega)
   refine sE (by rw [e1]; exact f1) (by rw [e1]; exact f2) (by rw [e1]; exact f3) ?_
   rw [e1]; unfold dJ at f4 ⊢
   split
   ·rename_i h0; rw [if_pos h0] at f4; exact f4
   ·rename_i h0; rw [if_neg h0] at f4; rw [aK _ (by omega)]; exact f4
  ·subst g
   rw [if_pos rfl] at hsl; rw [if_pos aPw]; rcases Nat.lt_or_ge s (xs.getD e 0).toNat with q | q
   ·obtain ⟨f1, f2, f3, f4⟩ := jS (hE.2 s q)
    have e1 := aK (aL xs e + s) (by omega)
    refine sE (by rw [e1]; exact f1) (by rw [e1]; exact f2) (by rw [e1]; exact f3) ?_
    rw [e1]; unfold dJ at f4 ⊢
    split
    ·rename_i h0; rw [if_pos h0] at f4; exact f4
    ·rename_i h0; rw [if_neg h0] at f4; rw [aK _ (by omega)]; exact f4
   ·have e0 : aL xs e + s = aL xs (e + 1) := by omega
    have e1 : aB (bN l e x) (aL xs e + s) = x := by rw [e0]; exact heq
    refine sE (by rw [e1]; exact hok) (by rw [e1]; exact aN0) (by rw [e1, aE2]; omega) ?_
    rw [e1, eB]; have hsp := oR l l.length; unfold dJ
    split
    ·omega
    ·rename_i h0
     rw [aK _ (by omega)]
     have := G6 l l.length (aL xs e + s - 1) (by omega)
     omega
  ·rw [if_neg (by omega)] at hsl
   rw [if_neg (by omega)]
   have hm := hC xs (d + 1) e g; obtain ⟨f1, f2, f3, f4⟩ := jS (hE.2 s hsl); have e1 : aB (bN l d x) (aL xs e + 1 + s) = aB l (aL xs e + s) := by
    rw [show aL xs e + 1 + s = aL xs e + s + 1 by omega]
    exact hgt _ (by omega)
   refine sE (by rw [e1]; exact f1) (by rw [e1]; exact f2) (by rw [e1]; exact f3) ?_
   rw [e1]; unfold dJ at f4 ⊢
   split
   ·rename_i h0; rw [if_pos h0] at f4; exact f4
   ·rename_i h0
    rw [if_neg h0] at f4; rw [show aL xs e + 1 + s - 1 = aL xs e + s - 1 + 1 by omega, hgt _ (by omega)]
    exact f4
 ·rw [decide_eq_true_eq, hs 4, hlp, if_neg (by omega)]
  omega
theorem uR {xs : List Int} {l : List aA} (h : aD xs l = true) {i : Nat} (hi : i < l.length) (hu : (aB l i).undos ≠ 50) : aD xs (dI l i) = true := by
 obtain ⟨hv, gJ, h4⟩ := fX h
 have hl := jY l i
 have yU : ∀ j, aB (dI l i) j = if i = j then eV (aB l i) else aB l j := fun j => by
  unfold dI aB; exact gZ hi
 have hub := dG (eT h hi)
 have eB : ∀ j, (aB (dI l i) j).stamp = (aB l j).stamp := fun j => by
  rw [yU]
  split
  ·rename_i e; subst e; rfl
  ·rfl
 unfold aD
 rw [Bool.and_eq_true, Bool.and_eq_true]
 refine ⟨hv, ?_, ?_⟩
 ·rw [List.all_eq_true]
  intro e he
  have he : e < 4 := List.mem_range.1 he; have hE := xJ.1 (gJ e he); rw [xJ, hl]; refine ⟨hE.1, fun s hs => ?_⟩
  obtain ⟨f1, f2, f3, f4⟩ := jS (hE.2 s hs); have hpv : dJ (dI l i) (aL xs e) s = dJ l (aL xs e) s := by
   unfold dJ
   split
   ·rfl
   ·exact eB _
  refine sE ?_ ?_ ?_ (by rw [hpv, eB]; exact f4)
  all_goals
   rw [yU]
   split
  ·rename_i e2
   subst e2; exact aEg (a := aB l (aL xs e + s)) f1 (u := (aB l (aL xs e + s)).undos + 1) (by omega) (by omega)
  ·exact f1
  ·rename_i e2; subst e2; exact f2
  ·exact f2
  ·rename_i e2; subst e2; exact f3
  ·exact f3
 ·rw [decide_eq_true_eq, hl]; exact h4
def aAX (x : ByteArray) (l : List aA) : Int := l.foldl (fun a o => if o.item = x ∧ o.undos % 2 = 0 then max a o.level else a) 0
theorem aBs {l : List aA} {k : Nat} (h : k < l.length) : l.take (k + 1) = l.take k ++ [l.getD k aA.zero] := by
 rw [List.take_succ_eq_append_getElem h, List.getD_eq_getElem?_getD, List.getElem?_eq_getElem h]; rfl
theorem aCH (x : ByteArray) (l : List aA) : ∀ k, k ≤ l.length → aO x l k = aAX x (l.take k)
 | 0, _ => rfl
 | k + 1, h => by
  rw [aO, aBs (by omega), aCH x l k (by omega)]
  unfold aAX; rw [List.foldl_append]
  rfl
def aFk (P : Int → Bool) (x : ByteArray) (l : List aA) : aA := l.foldl (fun b o => if (P o.kind = true ∧ o.item = x ∧ o.undos % 2 = 0) ∧ (b.kind = 0 ∨ mC b o = true) then o else b) aA.zero
theorem aB1 (P : Int → Bool) (x : ByteArray) (l : List aA) : ∀ k, k ≤ l.length → bA P x l k = aFk P x (l.take k)
 | 0, _ => rfl
 | k + 1, h => by
  rw [bA, aBs (by omega), aB1 P x l k (by omega)]
  unfold aFk; rw [List.foldl_append]
  rfl
theorem xQ (x : ByteArray) (l : List aA) : aO x l l.length = aAX x l := by rw [aCH x l _ aPw, List.take_length]
theorem t7 (P : Int → Bool) (x : ByteArray) (l : List aA) : bA P x l l.length = aFk P x l := by rw [aB1 P x l _ aPw, List.take_length]
theorem aKc {x : ByteArray} {l : List aA} {d : Nat} {o : aA} (h : o.item ≠ x) : aO x (bN l d o) (bN l d o).length = aO x l l.length := by
 rw [xQ, xQ]
 have e : l = l.take (putAt (d : Int) l) ++ l.drop (putAt (d : Int) l) := (List.take_append_drop _ _).symm
 show aAX x (l.take (putAt (d : Int) l) ++ [o] ++ l.drop (putAt (d : Int) l)) = aAX x l
 conv => rhs; rw [e]
 unfold aAX
 rw [List.foldl_append, List.foldl_append, List.foldl_append]
 congr 1
 show (if o.item = x ∧ o.undos % 2 = 0 then _ else _) = _
 rw [if_neg (fun q => h q.1)]
theorem aF9 {xs : List Int} {l : List aA} (h : aD xs l = true) {d : Nat} (hd : d < 4) {s : Int} (h1 : 1 ≤ s) (h2 : s ≤ xs.getD d 0) : (aL xs d + (s.toNat - 1)) < l.length ∧ nameAt l (d : Int) s = aL xs d + (s.toNat - 1) := by
 obtain ⟨a, b⟩ := zA h hd (s := s.toNat - 1) (by omega)
 refine ⟨a, E4 h a b.1 ?_⟩
 rw [b.2]
 omega
theorem aHt {xs : List Int} {l : List aA} (h : aD xs l = true) {d : Nat} (hd : d < 4) {s : Int} (hs : ¬ (1 ≤ s ∧ s ≤ xs.getD d 0)) : ¬ nameAt l (d : Int) s < l.length := aBA fun j hj ⟨e1, e2⟩ => by
 obtain ⟨e, he, a1, a2, _, a3, a4⟩ := pW h hj
 have hde : d = e := by rw [a3] at e1; omega
 subst hde
 have hv := eM (fX h).1 hd
 have : aL xs (d + 1) = aL xs d + (xs.getD d 0).toNat := rfl
 rw [a4] at e2
 omega
set_option maxHeartbeats 20000000 in
theorem aAr (w : World) (B : Nat) (a : Option Addr) (n cap : Nat) (l : List aA) (h : bK w B a n l) (hB : B ≤ w.heap.size) (hn : n ≤ 1048576) : Calls Tryz.prog 154 #[.slice a n cap] w fun e w' => e = .returned (.int .i64 (cY l l.length)) ∧ Below w.heap.size w w' := by
 have H := aPu h
 have HL := aPu h.1
 clear h
 go_enter Tryz.func154, Tryz.ntmps154
 go_wp2
 go_loopw [3, 8] (fun s i wr => ∃ k : Nat, k ≤ n ∧ i = .int .i64 (k : Int) ∧ s = .int .i64 (cY l k) ∧ Hid (Below w.heap.size w wr)) (fun _ i _ => n - (intOf i).toNat)
 case atStart => exact ⟨0, Nat.zero_le _, rfl, rfl, Below.refl _ _⟩
 case round =>
  obtain ⟨k, hk, rfl, rfl, HB⟩ := hrel
  by_cases aK : k < n
  rotate_left
  ·obtain rfl : k = n := by omega
   go_wp2
   go_ret
   exact ⟨by rw [HL.out]; rfl, HB.out⟩
  obtain ⟨b, off, rfl, hb, ho⟩ := H.out.2 k aK; obtain ⟨c0, c1, c2, c3, c4, c5, c6, c7⟩ := ho.kept (HB.out.block b (by omega))
  clear ho; have HU : Hid (cY l (k + 1) = max (cY l k) (l.getD k aA.zero).stamp) := rfl; generalize l.getD k aA.zero = x at HU c0 c1 c2 c3 c4 c5 c6 c7; generalize eB : cY l k = st at HU ⊢; clear eB
  go_upto_region 5 with fail
  have HX := aPu (bE (Below.refl _ (wr.alloc (.cells #[.int .i64 x.dev, .int .i64 x.seq, .int .i64 x.stamp, .int .i64 x.kind, .string x.item, .int .i64 x.qty, .int .i64 x.level, .int .i64 x.undos] 50)))); have cX := aPu (HB.out.alloc HB.out.size (.cells #[.int .i64 x.dev, .int .i64 x.seq, .int .i64 x.stamp, .int .i64 x.kind, .string x.item, .int .i64 x.qty, .int .i64 x.level, .int .i64 x.undos] 50)); generalize wr.alloc (.cells #[.int .i64 x.dev, .int .i64 x.seq, .int .i64 x.stamp, .int .i64 x.kind, .string x.item, .int .i64 x.qty, .int .i64 x.level, .int .i64 x.undos] 50) = w1 at HX cX ⊢; generalize wr.heap.size = bo at HX ⊢; clear c0 c1 c2 c3 c4 c5 c6 c7 HB; obtain ⟨d0, d1, d2, d3, d4, d5, d6, d7⟩ := aM HX.out; go_wp2
  go_roundw
  case rel => exact ⟨k + 1, by omega, by go_num, by rw [HU.out], cX⟩
  case measure => simp [intOf]; omega
set_option maxHeartbeats 20000000 in
theorem uL (w : World) (B : Nat) (av ao : Option Addr) (cv no co d : Nat) (xs : List Int) (hx : Ints w B av 4 xs) (hB : B ≤ w.heap.size) (bX : 4 ≤ cv) (hd : d < 4) (hv : cG xs = true) (s : Int) (h1 : 1 ≤ s) (h2 : s ≤ 1000) :
  Calls Tryz.prog 72 #[.agg #[.slice av 4 cv, .slice ao no co], .int .i64 (d : Int), .int .i64 s] w fun e w' => e = .returned (.int .i64 ((aL xs d + (s.toNat - 1) : Nat) : Int)) ∧ Below w.heap.size w w' := by
 have bC : Below w.heap.size w (w.alloc (.cells #[.slice av 4 cv, .slice ao no co] 27)) := (Below.refl _ w).alloc aPw _
 have HV := aPu (hx.below bC hB)
 have HB := aPu bC
 have HX := aPu (bE (Below.refl _ (w.alloc (.cells #[.slice av 4 cv, .slice ao no co] 27))))
 have HVo := aPu hv
 clear hx bC hv
 obtain ⟨b, off, hav, _⟩ := HV.out.2 0 (by omega)
 subst hav
 go_enter Tryz.func72, Tryz.ntmps72
 go_upto_region 1 with fail
 generalize w.alloc (.cells #[.slice (some ⟨b, off, none⟩) 4 cv, .slice ao no co] 27) = w0 at HV HB HX ⊢
 obtain ⟨c0, c1⟩ := pair_cells HX.out
 have hdi : (d : Int) ≤ 4 := by omega
 have hdc : (d : Int) ≤ (cv : Int) := by omega
 have hws : IntKind.i64.wrap (s - 1) = s - 1 := IntWalk.i64_in _ (by omega)
 go_wp2
 go_loopw [7, 17] (fun p i wr => ∃ k : Nat, k ≤ d ∧ i = .int .i64 (k : Int) ∧ p = .int .i64 (s - 1 + (aL xs k : Int)) ∧ wr = w0) (fun _ i _ => d - (intOf i).toNat)
 case atStart => exact ⟨0, Nat.zero_le _, rfl, by show _ = Value.int .i64 (s - 1 + ((0 : Nat) : Int)); simp, rfl⟩
 case round =>
  obtain ⟨k, hk, rfl, rfl, rfl⟩ := hrel
  by_cases aK : k < d
  rotate_left
  ·obtain rfl : k = d := by omega
   have he : s - 1 + (aL xs k : Int) = ((aL xs k + (s.toNat - 1) : Nat) : Int) := by omega
   rw [he]; go_wp2
   go_ret
   exact ⟨rfl, HB.out⟩
  obtain ⟨b', o', e, hb, hc⟩ := HV.out.2 k (by omega)
  injection e with e; injection e with e1 e2; subst e1 e2; have hvk := eM HVo.out (d := k) (by omega)
  have hsk := E0 HVo.out k (by omega)
  have aJr : (aL xs (k + 1) : Int) = (aL xs k : Int) + xs.getD k 0 := by
   show ((aL xs k + (xs.getD k 0).toNat : Nat) : Int) = _
   omega
  have bZ := aPu aJr; clear aJr; have hki : (k : Int) < (d : Int) := by omega
  generalize xs.getD k 0 = y at hc hvk bZ; generalize hq : (aL xs k : Int) = q at bZ ⊢; have M5 : 0 ≤ q ∧ q ≤ 160 := by omega
  clear hq hsk; have hwp : IntKind.i64.wrap (s - 1 + q + y) = s - 1 + q + y := IntWalk.i64_in _ (by omega)
  go_wp2
  go_roundw
  case rel => exact ⟨k + 1, by omega, by go_num, by rw [bZ.out]; congr 1; omega, trivial⟩
  case measure => simp [intOf]; omega
theorem P9 {xs : List Int} {l : List aA} (h : aD xs l = true) {d : Nat} (hd : d < 4) {kind : Int} {item : ByteArray} {qty : Int} (h0 : (dW xs l d kind item qty).1 = 0) : aD (dW xs l d kind item qty).2.1 (dW xs l d kind item qty).2.2 = true := by
 unfold dW at h0 ⊢
 dsimp only at h0 ⊢
 split at h0
 ·rename_i h1
  rw [if_pos h1]
  split at h0
  ·rename_i h2
   rw [if_pos h2]; exact J7 h hd h2
  ·cases h0
 ·rename_i h1
  exact absurd h0 h1
def rN (d : Nat) : List ByteArray → List Int → List aA → Int × List Int × List aA
 | [], zs, m => (0, zs, m)
 | s :: U, zs, m => if (dW zs m d 3 s 0).1 = 0 then rN d U (dW zs m d 3 s 0).2.1 (dW zs m d 3 s 0).2.2 else ((dW zs m d 3 s 0).1, [], [])
def wE (l : List aA) (d : Nat) : List ByteArray → List Int × List aA × Int → Option (List Int × List aA × Int)
 | [], q => some q
 | s :: L, q => (eS l d s q).bind (wE l d L)
theorem aBX (l : List aA) (d : Nat) (s : ByteArray) : ∀ (A : List ByteArray) (q : List Int × List aA × Int), wE l d (A ++ [s]) q = (wE l d A q).bind (eS l d s)
 | [], q => by
  show (eS l d s q).bind (wE l d []) = eS l d s q
  cases eS l d s q <;> rfl
 | a :: A, q => by
  show (eS l d a q).bind (wE l d (A ++ [s])) = ((eS l d a q).bind (wE l d A)).bind (eS l d s)
  cases eS l d a q with
  | none => rfl
  | some q' => exact aBX l d s A q'
theorem aAz (xs : List Int) (l : List aA) (d : Nat) (L : List ByteArray) : ∀ k, k ≤ L.length → iC xs l d L k = wE l d (L.take k) (xs, l, 2)
 | 0, _ => rfl
 | k + 1, h => by
  have e : L.take (k + 1) = L.take k ++ [L.getD k ⟨#[]⟩] := by
   rw [List.take_succ_eq_append_getElem (by omega), List.getD_eq_getElem?_getD, List.getElem?_eq_getElem (by omega)]; rfl
  rw [e, aBX, ← aAz xs l d L k (by omega)]
  rfl
theorem aJ6 {zs : List Int} {m l : List aA} {d : Nat} {s : ByteArray} (h1 : aO s m m.length = aO s l l.length) (h2 : aO s l l.length % 2 = 1) : dW zs m d 3 s 0 = if (aN zs m d (kE l s)).ok = true then (0, dF zs d, bN m d (aN zs m d (kE l s))) else (4, [], []) := by
 unfold dW
 have e : oneOf (aO s m m.length) (bW m s) 3 s 0 = (kE l s, 0) := by
  unfold oneOf kE; rw [h1, if_neg (by decide), if_pos h2, if_neg (by decide), if_pos rfl]
 dsimp only
 rw [e]
 dsimp only
 rw [if_pos rfl]
theorem aFh {l : List aA} {d : Nat} (hd : d < 4) : ∀ (L : List ByteArray) (zs : List Int) (m : List aA) (c : Int), aD zs m = true → (∀ s, s ∈ L → aO s m m.length = aO s l l.length ∧ aO s l l.length % 2 = 1) → L.Nodup →
  match wE l d L (zs, m, c) with
  | none => rN d (L.filter fun s => !bW l s) zs m = (4, [], []) ∧ (L.filter fun s => !bW l s) ≠ []
  | some q => rN d (L.filter fun s => !bW l s) zs m = (0, q.1, q.2.1) ∧ q.2.2 = (if (L.filter fun s => !bW l s) = [] then c else 0)
 | [], zs, m, c, _, _, _ => ⟨rfl, rfl⟩
 | s :: L, zs, m, c, hc, hl, hn => by
  have vJ := List.nodup_cons.1 hn; have hs := hl s (by simp)
  show match (eS l d s (zs, m, c)).bind (wE l d L) with
   | none => _
   | some q => _
  rcases hsv : bW l s with _ | _
  ·have ef : ((s :: L).filter fun s => !bW l s) = s :: (L.filter fun s => !bW l s) := by rw [List.filter_cons, if_pos (by rw [hsv]; rfl)]
   rw [ef]; have e1 := aJ6 (zs := zs) (m := m) (d := d) hs.1 hs.2; unfold eS; rw [if_neg (by rw [hsv]; decide)]
   dsimp only
   rcases hok : (aN zs m d (kE l s)).ok with _ | _
   ·rw [if_neg (by decide)]
    rw [hok, if_neg (by decide)] at e1
    refine ⟨?_, by simp⟩
    show (if (dW zs m d 3 s 0).1 = 0 then _ else _) = _
    rw [e1]
    rfl
   ·rw [if_pos rfl]
    rw [hok, if_pos rfl] at e1; have ih := aFh hd L (dF zs d) (bN m d (aN zs m d (kE l s))) 0 (J7 hc hd hok) (fun x hx => by
     have S0 := hl x (by simp [hx])
     have bJ : (aN zs m d (kE l s)).item ≠ x := fun e => vJ.1 (by
      have e : s = x := e; rw [e]; exact hx)
     exact ⟨(aKc bJ).trans S0.1, S0.2⟩) vJ.2
    have eu : rN d (s :: L.filter fun s => !bW l s) zs m = rN d (L.filter fun s => !bW l s) (dF zs d) (bN m d (aN zs m d (kE l s))) := by
     show (if (dW zs m d 3 s 0).1 = 0 then _ else _) = _
     rw [e1]
     rfl
    rw [eu]
    show match wE l d L (dF zs d, bN m d (aN zs m d (kE l s)), 0) with
     | none => _
     | some q => _
    cases hq : wE l d L (dF zs d, bN m d (aN zs m d (kE l s)), 0) with
    | none => rw [hq] at ih; exact ⟨ih.1, by simp⟩
    | some q =>
     rw [hq] at ih; refine ⟨ih.1, ?_⟩
     have := ih.2; rw [if_neg (by simp), this]
     split <;> rfl
  ·have ef : ((s :: L).filter fun s => !bW l s) = (L.filter fun s => !bW l s) := by rw [List.filter_cons, if_neg (by rw [hsv]; decide)]
   rw [ef]; unfold eS; rw [if_pos hsv]; exact aFh hd L zs m c hc (fun x hx => hl x (by simp [hx])) vJ.2
theorem aDR (l : List aA) (k : Nat) : (bU l k).Nodup := by
 have h := qQ l k
 unfold Asc at h
 exact h.imp fun {a b} hab e => by
  subst e; rw [H9] at hab; cases hab
theorem r8 {xs : List Int} {l : List aA} (h : aD xs l = true) {d : Nat} (hd : d < 4) : qI xs l d = if ((bU l l.length).filter fun s => !bW l s) = [] then (2, [], []) else rN d ((bU l l.length).filter fun s => !bW l s) xs l := by
 have hu := aFh (l := l) hd (bU l l.length) xs l 2 h (fun s hs => ⟨rfl, ((oS l s l.length).1 hs).1⟩) (aDR l l.length)
 unfold qI
 rw [aAz xs l d _ _ aPw, List.take_length]
 cases hq : wE l d (bU l l.length) (xs, l, 2) with
 | none =>
  rw [hq] at hu; rw [if_neg hu.2, hu.1]
 | some q =>
  rw [hq] at hu; have h2 := hu.2
  dsimp only
  split
  ·rename_i h0
   split at h2
   ·omega
   ·rename_i bJ
    rw [if_neg bJ, hu.1]
  ·rename_i h0
   split at h2
   ·rename_i he
    rw [if_pos he]
   ·exact absurd h2 h0
end Go.Proofs.YthkagbnpcjidfaaGreatDoor
