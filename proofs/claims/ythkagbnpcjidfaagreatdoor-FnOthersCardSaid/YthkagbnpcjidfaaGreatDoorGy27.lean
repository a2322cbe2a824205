/- Walks and mathematics that several claims share, part 27. -/
import Derived.Test.YthkagbnpcjidfaaGreatDoorGy21
import Derived.Test.YthkagbnpcjidfaaGreatDoorGy26
import Derived.Deep.Cut
import Derived.Test.YthkagbnpcjidfaaGreatDoorGyA
namespace Go.Proofs.YthkagbnpcjidfaaGreatDoor
set_option maxRecDepth 100000
open Go.RowKit
set_option linter.unusedVariables false
set_option linter.unusedSimpArgs false
set_option linter.unusedVariables false

theorem aDV {xs : List Int} {l : List aA} (h : aE xs l = true) {d : Nat} (hd : d < 4) : putAt (d : Int) l = aR xs (d + 1) := by
 obtain ⟨_, jP, h4⟩ := lO h
 have N5 := qP (d : Int) l
 have hm : aR xs (d + 1) ≤ l.length := by rw [← h4]; exact lD xs _ _ (by omega)
 rcases Nat.lt_trichotomy (putAt (d : Int) l) (aR xs (d + 1)) with g | g | g
 ·exfalso
  have aK : putAt (d : Int) l < l.length := by omega
  have he := j8 aK; obtain ⟨e, he4, h1, h2, _, hde, _⟩ := vS h aK
  apply he
  rw [hde]; rcases Nat.lt_or_ge d e with q | q
  ·have := lD xs (d + 1) e q; omega
  ·omega
 ·exact g
 ·exfalso
  have aK : aR xs (d + 1) < l.length := by omega
  have ha := aA0 g; obtain ⟨e, he4, h1, h2, _, hde, _⟩ := vS h aK; rw [hde] at ha; have := lD xs (e + 1) (d + 1) (by omega)
  omega
theorem aMM {l : List aA} {d i : Nat} (o : aA) (hi : i < putAt (d : Int) l) : aC (bO l d o) i = aC l i := by
 have N5 := qP (d : Int) l
 unfold aC bO
 rw [List.getD_eq_getElem?_getD, List.getD_eq_getElem?_getD, List.append_assoc, List.getElem?_append_left (by rw [List.length_take]; omega), List.getElem?_take_of_lt hi]
theorem put_eq (l : List aA) (d : Nat) (o : aA) : aC (bO l d o) (putAt (d : Int) l) = o := by
 have N5 := qP (d : Int) l
 unfold aC bO
 rw [List.getD_eq_getElem?_getD, List.append_assoc, List.getElem?_append_right (by rw [List.length_take]; omega), List.length_take, Nat.min_eq_left N5, Nat.sub_self]
 rfl
theorem aMN {l : List aA} {d i : Nat} (o : aA) (hi : putAt (d : Int) l ≤ i) : aC (bO l d o) (i + 1) = aC l i := by
 have N5 := qP (d : Int) l
 unfold aC bO
 rw [List.getD_eq_getElem?_getD, List.getD_eq_getElem?_getD, List.append_assoc, List.getElem?_append_right (by rw [List.length_take]; omega), List.length_take, Nat.min_eq_left N5, show i + 1 - putAt (d : Int) l = (i - putAt (d : Int) l) + 1 by omega]
 show (([o] ++ l.drop (putAt (d : Int) l))[(i - putAt (d : Int) l) + 1]?).getD _ = _
 rw [List.getElem?_append_right (by show 1 ≤ _; omega)]
 show ((l.drop (putAt (d : Int) l))[(i - putAt (d : Int) l) + 1 - 1]?).getD _ = _
 rw [List.getElem?_drop]
 congr 2
 omega
theorem R5 {xs : List Int} {d e : Nat} (hl : xs.length = 4) (hd : d < 4) : (dU xs d).getD e 0 = if d = e then xs.getD d 0 + 1 else xs.getD e 0 := by
 unfold dU
 exact jM (by omega)
theorem aDN {xs : List Int} {d : Nat} (hl : xs.length = 4) (hd : d < 4) (h0 : 0 ≤ xs.getD d 0) : ∀ e, aR (dU xs d) e = if e ≤ d then aR xs e else aR xs e + 1
 | 0 => by rw [if_pos (Nat.zero_le _)]; rfl
 | e + 1 => by
  show aR (dU xs d) e + ((dU xs d).getD e 0).toNat = _
  rw [aDN hl hd h0 e, R5 hl hd]; have hs : aR xs (e + 1) = aR xs e + (xs.getD e 0).toNat := rfl; rcases Nat.lt_trichotomy e d with g | g | g
  ·rw [if_pos (by omega : e ≤ d), if_neg (by omega : ¬ d = e), if_pos (by omega : e + 1 ≤ d), hs]
  ·subst g
   rw [if_pos (Nat.le_refl e), if_pos rfl, if_neg (by omega : ¬ e + 1 ≤ e), hs]
   omega
  ·rw [if_neg (by omega : ¬ e ≤ d), if_neg (by omega : ¬ d = e), if_neg (by omega : ¬ e + 1 ≤ d), hs]
   omega
theorem T7 (l : List aA) : ∀ k i, i < k → (aC l i).stamp ≤ dM l k
 | k + 1, i, h => by
  rw [dM]; rcases Nat.lt_or_ge i k with g | g
  ·have := T7 l k i g; omega
  ·obtain rfl : i = k := by omega
   omega
theorem F5 {xs : List Int} {l : List aA} {d : Nat} : kM xs l d = true ↔ aR xs (d + 1) ≤ l.length ∧ ∀ s, s < (xs.getD d 0).toNat → mD l d (aR xs d) s = true := by
 unfold kM oD
 simp only [Bool.and_eq_true, decide_eq_true_eq, List.all_eq_true, List.mem_range]
theorem aIX {xs : List Int} (hl : xs.length = 4) (h : ∀ d, d < 4 → 0 ≤ xs.getD d 0 ∧ xs.getD d 0 ≤ 40) : cU xs = true := by
 unfold cU
 rw [Bool.and_eq_true]
 refine ⟨?_, decide_eq_true hl⟩
 rw [List.all_eq_true]
 intro x hx
 obtain ⟨i, hi, e⟩ := List.mem_iff_getElem.1 hx
 have e2 : xs.getD i 0 = x := by rw [List.getD_eq_getElem?_getD, List.getElem?_eq_getElem hi]; exact e
 have := h i (by omega)
 rw [← e2]
 unfold wN
 rw [Bool.and_eq_true]
 exact ⟨decide_eq_true (by omega), decide_eq_true (by omega)⟩
/-- A device's next operation, put in. -/
theorem K8 {xs : List Int} {l : List aA} (h : aE xs l = true) {d : Nat} (hd : d < 4) {o : aA} (hok : (aJ xs l d o).ok = true) : aE (dU xs d) (bO l d (aJ xs l d o)) = true := by
 obtain ⟨hv, jP, h4⟩ := lO h
 have hl := (gR hv (d := 0) (by omega)).2.2
 have hxd := gR hv hd
 have hb := dZ hok
 have aJN : (aJ xs l d o).seq = xs.getD d 0 + 1 := rfl
 have aP0 : (aJ xs l d o).dev = (d : Int) := rfl
 have gC : (aJ xs l d o).stamp = dM l l.length + 1 := rfl
 have hp := aDV h hd
 have hlp : (bO l d (aJ xs l d o)).length = l.length + 1 := uT l d _
 have hd1 : aR xs (d + 1) = aR xs d + (xs.getD d 0).toNat := rfl
 have aRi : aR xs (d + 1) ≤ l.length := by rw [← h4]; exact lD xs _ _ (by omega)
 have hs := aDN hl hd hxd.1
 have aK := fun i => aMM (l := l) (d := d) (i := i) (aJ xs l d o)
 have heq := put_eq l d (aJ xs l d o)
 have hgt := fun i => aMN (l := l) (d := d) (i := i) (aJ xs l d o)
 generalize aJ xs l d o = x at *
 rw [hp] at aK heq hgt
 have hvo : cU (dU xs d) = true := aIX (by unfold dU; rw [List.length_set]; exact hl) fun e he => by
  rw [R5 hl hd]; have := gR hv he
  split <;> omega
 unfold aE
 rw [Bool.and_eq_true, Bool.and_eq_true]
 refine ⟨hvo, ?_, ?_⟩
 ·rw [List.all_eq_true]
  intro e he
  have he : e < 4 := List.mem_range.1 he; have hE := F5.1 (jP e he); rw [F5, hs e, hs (e + 1), hlp, R5 hl hd]; have fM : aR xs (e + 1) = aR xs e + (xs.getD e 0).toNat := rfl; refine ⟨by split <;> omega, fun s hsl => ?_⟩
  rcases Nat.lt_trichotomy e d with g | g | g
  ·rw [if_neg (by omega)] at hsl
   rw [if_pos (by omega)]
   have hm := lD xs (e + 1) d g; obtain ⟨f1, f2, f3, f4⟩ := lN (hE.2 s hsl); have e1 := aK (aR xs e + s) (by omega)
   refine vQ (by rw [e1]; exact f1) (by rw [e1]; exact f2) (by rw [e1]; exact f3) ?_
   rw [e1]; unfold eE at f4 ⊢
   split
   ·rename_i h0; rw [if_pos h0] at f4; exact f4
   ·rename_i h0; rw [if_neg h0] at f4; rw [aK _ (by omega)]; exact f4
  ·subst g
   rw [if_pos rfl] at hsl; rw [if_pos aRC]; rcases Nat.lt_or_ge s (xs.getD e 0).toNat with q | q
   ·obtain ⟨f1, f2, f3, f4⟩ := lN (hE.2 s q)
    have e1 := aK (aR xs e + s) (by omega)
    refine vQ (by rw [e1]; exact f1) (by rw [e1]; exact f2) (by rw [e1]; exact f3) ?_
    rw [e1]; unfold eE at f4 ⊢
    split
    ·rename_i h0; rw [if_pos h0] at f4; exact f4
    ·rename_i h0; rw [if_neg h0] at f4; rw [aK _ (by omega)]; exact f4
   ·have e0 : aR xs e + s = aR xs (e + 1) := by omega
    have e1 : aC (bO l e x) (aR xs e + s) = x := by rw [e0]; exact heq
    refine vQ (by rw [e1]; exact hok) (by rw [e1]; exact aP0) (by rw [e1, aJN]; omega) ?_
    rw [e1, gC]; have hsp := rP l l.length; unfold eE
    split
    ·omega
    ·rename_i h0
     rw [aK _ (by omega)]
     have := T7 l l.length (aR xs e + s - 1) (by omega)
     omega
  ·rw [if_neg (by omega)] at hsl
   rw [if_neg (by omega)]
   have hm := lD xs (d + 1) e g; obtain ⟨f1, f2, f3, f4⟩ := lN (hE.2 s hsl); have e1 : aC (bO l d x) (aR xs e + 1 + s) = aC l (aR xs e + s) := by
    rw [show aR xs e + 1 + s = aR xs e + s + 1 by omega]
    exact hgt _ (by omega)
   refine vQ (by rw [e1]; exact f1) (by rw [e1]; exact f2) (by rw [e1]; exact f3) ?_
   rw [e1]; unfold eE at f4 ⊢
   split
   ·rename_i h0; rw [if_pos h0] at f4; exact f4
   ·rename_i h0
    rw [if_neg h0] at f4; rw [show aR xs e + 1 + s - 1 = aR xs e + s - 1 + 1 by omega, hgt _ (by omega)]
    exact f4
 ·rw [decide_eq_true_eq, hs 4, hlp, if_neg (by omega)]
  omega
/-- An operation undone once more. -/
theorem aBe {xs : List Int} {l : List aA} (h : aE xs l = true) {i : Nat} (hi : i < l.length) (hu : (aC l i).undos ≠ 50) : aE xs (fB l i) = true := by
 obtain ⟨hv, jP, h4⟩ := lO h
 have hl := nH l i
 have Y8 : ∀ j, aC (fB l i) j = if i = j then lY (aC l i) else aC l j := fun j => by
  unfold fB aC; exact jM hi
 have hub := dZ (fA h hi)
 have gC : ∀ j, (aC (fB l i) j).stamp = (aC l j).stamp := fun j => by
  rw [Y8]
  split
  ·rename_i e; subst e; rfl
  ·rfl
 unfold aE
 rw [Bool.and_eq_true, Bool.and_eq_true]
 refine ⟨hv, ?_, ?_⟩
 ·rw [List.all_eq_true]
  intro e he
  have he : e < 4 := List.mem_range.1 he; have hE := F5.1 (jP e he); rw [F5, hl]; refine ⟨hE.1, fun s hs => ?_⟩
  obtain ⟨f1, f2, f3, f4⟩ := lN (hE.2 s hs); have hpv : eE (fB l i) (aR xs e) s = eE l (aR xs e) s := by
   unfold eE
   split
   ·rfl
   ·exact gC _
  refine vQ ?_ ?_ ?_ (by rw [hpv, gC]; exact f4)
  all_goals
   rw [Y8]
   split
  ·rename_i e2
   subst e2; exact aFI (a := aC l (aR xs e + s)) f1 (u := (aC l (aR xs e + s)).undos + 1) (by omega) (by omega)
  ·exact f1
  ·rename_i e2; subst e2; exact f2
  ·exact f2
  ·rename_i e2; subst e2; exact f3
  ·exact f3
 ·rw [decide_eq_true_eq, hl]; exact h4
/-- The level of an item, over a list. -/
def aCv (x : ByteArray) (l : List aA) : Int := l.foldl (fun a o => if o.item = x ∧ o.undos % 2 = 0 then max a o.level else a) 0
theorem aCT {l : List aA} {k : Nat} (h : k < l.length) : l.take (k + 1) = l.take k ++ [l.getD k aA.zero] := by
 rw [List.take_succ_eq_append_getElem h, List.getD_eq_getElem?_getD, List.getElem?_eq_getElem h]; rfl
theorem aD9 (x : ByteArray) (l : List aA) : ∀ k, k ≤ l.length → aG x l k = aCv x (l.take k)
 | 0, _ => rfl
 | k + 1, h => by
  rw [aG, aCT (by omega), aD9 x l k (by omega)]
  unfold aCv; rw [List.foldl_append]
  rfl
def aAD (P : Int → Bool) (x : ByteArray) (l : List aA) : aA := l.foldl (fun b o => if (P o.kind = true ∧ o.item = x ∧ o.undos % 2 = 0) ∧ (b.kind = 0 ∨ pB b o = true) then o else b) aA.zero
theorem aDp (P : Int → Bool) (x : ByteArray) (l : List aA) : ∀ k, k ≤ l.length → aU P x l k = aAD P x (l.take k)
 | 0, _ => rfl
 | k + 1, h => by
  rw [aU, aCT (by omega), aDp P x l k (by omega)]
  unfold aAD; rw [List.foldl_append]
  rfl
theorem G7 (x : ByteArray) (l : List aA) : aG x l l.length = aCv x l := by rw [aD9 x l _ aRC, List.take_length]
theorem L0 (P : Int → Bool) (x : ByteArray) (l : List aA) : aU P x l l.length = aAD P x l := by rw [aDp P x l _ aRC, List.take_length]
theorem aFM {x : ByteArray} {l : List aA} {d : Nat} {o : aA} (h : o.item ≠ x) : aG x (bO l d o) (bO l d o).length = aG x l l.length := by
 rw [G7, G7]
 have e : l = l.take (putAt (d : Int) l) ++ l.drop (putAt (d : Int) l) := (List.take_append_drop _ _).symm
 show aCv x (l.take (putAt (d : Int) l) ++ [o] ++ l.drop (putAt (d : Int) l)) = aCv x l
 conv => rhs; rw [e]
 unfold aCv
 rw [List.foldl_append, List.foldl_append, List.foldl_append]
 congr 1
 show (if o.item = x ∧ o.undos % 2 = 0 then _ else _) = _
 rw [if_neg (fun q => h q.1)]
theorem aEK {P : Int → Bool} {x : ByteArray} {l : List aA} {d : Nat} {o : aA} (h : o.item ≠ x) : aU P x (bO l d o) (bO l d o).length = aU P x l l.length := by
 rw [L0, L0]
 have e : l = l.take (putAt (d : Int) l) ++ l.drop (putAt (d : Int) l) := (List.take_append_drop _ _).symm
 show aAD P x (l.take (putAt (d : Int) l) ++ [o] ++ l.drop (putAt (d : Int) l)) = aAD P x l
 conv => rhs; rw [e]
 unfold aAD
 rw [List.foldl_append, List.foldl_append, List.foldl_append]
 congr 1
 show (if (P o.kind = true ∧ o.item = x ∧ o.undos % 2 = 0) ∧ _ then _ else _) = _
 rw [if_neg (fun q => h q.1.2.1)]
/-- The place of an operation, by its device and number. -/
theorem aHO {xs : List Int} {l : List aA} (h : aE xs l = true) {d : Nat} (hd : d < 4) {s : Int} (h1 : 1 ≤ s) (h2 : s ≤ xs.getD d 0) : (aR xs d + (s.toNat - 1)) < l.length ∧ nameAt l (d : Int) s = aR xs d + (s.toNat - 1) := by
 obtain ⟨a, b⟩ := K9 h hd (s := s.toNat - 1) (by omega)
 refine ⟨a, aAw h a b.1 ?_⟩
 rw [b.2]
 omega
theorem aI9 {xs : List Int} {l : List aA} (h : aE xs l = true) {d : Nat} (hd : d < 4) {s : Int} (hs : ¬ (1 ≤ s ∧ s ≤ xs.getD d 0)) : ¬ nameAt l (d : Int) s < l.length := aC1 fun j hj ⟨e1, e2⟩ => by
 obtain ⟨e, he, a1, a2, _, a3, a4⟩ := vS h hj
 have hde : d = e := by rw [a3] at e1; omega
 subst hde
 have hv := gR (lO h).1 hd
 have : aR xs (d + 1) = aR xs d + (xs.getD d 0).toNat := rfl
 rw [a4] at e2
 omega
set_option linter.unusedVariables false
set_option linter.unusedSimpArgs false

set_option maxHeartbeats 20000000 in
theorem aBB (w : World) (B : Nat) (a : Option Addr) (n cap : Nat) (l : List aA) (h : bS w B a n l) (hB : B ≤ w.heap.size) (hn : n ≤ 1048576) : Calls Tryz.prog 154 #[.slice a n cap] w fun e w' => e = .returned (.int .i64 (dM l l.length)) ∧ Below w.heap.size w w' := by
 have H := aRA h
 have HL := aRA h.1
 clear h
 go_enter Tryz.func154, Tryz.ntmps154
 go_wp2
 go_loopw [3, 8] (fun s i wr => ∃ k : Nat, k ≤ n ∧ i = .int .i64 (k : Int) ∧ s = .int .i64 (dM l k) ∧ Hid (Below w.heap.size w wr)) (fun _ i _ => n - (intOf i).toNat)
 case atStart => exact ⟨0, Nat.zero_le _, rfl, rfl, Below.refl _ _⟩
 case round =>
  obtain ⟨k, hk, rfl, rfl, HB⟩ := hrel
  by_cases aK : k < n
  rotate_left
  ·obtain rfl : k = n := by omega
   go_wp2
   go_ret
   exact ⟨by rw [HL.out]; rfl, HB.out⟩
  obtain ⟨b, off, rfl, hb, ho⟩ := H.out.2 k aK; obtain ⟨c0, c1, c2, c3, c4, c5, c6, c7⟩ := ho.kept (HB.out.block b (by omega))
  clear ho; have HU : Hid (dM l (k + 1) = max (dM l k) (l.getD k aA.zero).stamp) := rfl; generalize l.getD k aA.zero = x at HU c0 c1 c2 c3 c4 c5 c6 c7; generalize gC : dM l k = st at HU ⊢; clear gC
  go_upto_region 5 with fail
  have HX := aRA (bL (Below.refl _ (wr.alloc (.cells #[.int .i64 x.dev, .int .i64 x.seq, .int .i64 x.stamp, .int .i64 x.kind, .string x.item, .int .i64 x.qty, .int .i64 x.level, .int .i64 x.undos] 50)))); have cO := aRA (HB.out.alloc HB.out.size (.cells #[.int .i64 x.dev, .int .i64 x.seq, .int .i64 x.stamp, .int .i64 x.kind, .string x.item, .int .i64 x.qty, .int .i64 x.level, .int .i64 x.undos] 50)); generalize wr.alloc (.cells #[.int .i64 x.dev, .int .i64 x.seq, .int .i64 x.stamp, .int .i64 x.kind, .string x.item, .int .i64 x.qty, .int .i64 x.level, .int .i64 x.undos] 50) = w1 at HX cO ⊢; generalize wr.heap.size = bo at HX ⊢; clear c0 c1 c2 c3 c4 c5 c6 c7 HB; obtain ⟨d0, d1, d2, d3, d4, d5, d6, d7⟩ := aQ HX.out; go_wp2
  go_roundw
  case rel => exact ⟨k + 1, by omega, by go_num, by rw [HU.out], cO⟩
  case measure => simp [intOf]; omega
set_option maxHeartbeats 20000000 in
/-- The place of a device's number: what stands ahead of the device, and the numbers below. -/
theorem yP (w : World) (B : Nat) (av ao : Option Addr) (cv no co d : Nat) (xs : List Int) (hx : Ints w B av 4 xs) (hB : B ≤ w.heap.size) (bI : 4 ≤ cv) (hd : d < 4) (hv : cU xs = true) (s : Int) (h1 : 1 ≤ s) (h2 : s ≤ 1000) :
  Calls Tryz.prog 72 #[.agg #[.slice av 4 cv, .slice ao no co], .int .i64 (d : Int), .int .i64 s] w fun e w' => e = .returned (.int .i64 ((aR xs d + (s.toNat - 1) : Nat) : Int)) ∧ Below w.heap.size w w' := by
 have aW : Below w.heap.size w (w.alloc (.cells #[.slice av 4 cv, .slice ao no co] 27)) := (Below.refl _ w).alloc aRC _
 have HV := aRA (hx.below aW hB)
 have HB := aRA aW
 have HX := aRA (bL (Below.refl _ (w.alloc (.cells #[.slice av 4 cv, .slice ao no co] 27))))
 have HVo := aRA hv
 clear hx aW hv
 obtain ⟨b, off, hav, _⟩ := HV.out.2 0 (by omega)
 subst hav
 go_enter Tryz.func72, Tryz.ntmps72
 go_upto_region 1 with fail
 generalize w.alloc (.cells #[.slice (some ⟨b, off, none⟩) 4 cv, .slice ao no co] 27) = w0 at HV HB HX ⊢
 obtain ⟨c0, c1⟩ := pair_cells HX.out
 have Y5 : (d : Int) ≤ 4 := by omega
 have hdc : (d : Int) ≤ (cv : Int) := by omega
 have hws : IntKind.i64.wrap (s - 1) = s - 1 := IntWalk.i64_in _ (by omega)
 go_wp2
 go_loopw [7, 17] (fun p i wr => ∃ k : Nat, k ≤ d ∧ i = .int .i64 (k : Int) ∧ p = .int .i64 (s - 1 + (aR xs k : Int)) ∧ wr = w0) (fun _ i _ => d - (intOf i).toNat)
 case atStart => exact ⟨0, Nat.zero_le _, rfl, by show _ = Value.int .i64 (s - 1 + ((0 : Nat) : Int)); simp, rfl⟩
 case round =>
  obtain ⟨k, hk, rfl, rfl, rfl⟩ := hrel
  by_cases aK : k < d
  rotate_left
  ·obtain rfl : k = d := by omega
   have he : s - 1 + (aR xs k : Int) = ((aR xs k + (s.toNat - 1) : Nat) : Int) := by omega
   rw [he]; go_wp2
   go_ret
   exact ⟨rfl, HB.out⟩
  obtain ⟨b', o', e, hb, hc⟩ := HV.out.2 k (by omega)
  injection e with e; injection e with e1 e2; subst e1 e2; have hvk := gR HVo.out (d := k) (by omega)
  have hsk := aAs HVo.out k (by omega)
  have aKS : (aR xs (k + 1) : Int) = (aR xs k : Int) + xs.getD k 0 := by
   show ((aR xs k + (xs.getD k 0).toNat : Nat) : Int) = _
   omega
  have cZ := aRA aKS; clear aKS; have hki : (k : Int) < (d : Int) := by omega
  generalize xs.getD k 0 = y at hc hvk cZ; generalize hq : (aR xs k : Int) = q at cZ ⊢; have Y2 : 0 ≤ q ∧ q ≤ 160 := by omega
  clear hq hsk; have hwp : IntKind.i64.wrap (s - 1 + q + y) = s - 1 + q + y := IntWalk.i64_in _ (by omega)
  go_wp2
  go_roundw
  case rel => exact ⟨k + 1, by omega, by go_num, by rw [cZ.out]; congr 1; omega, trivial⟩
  case measure => simp [intOf]; omega
set_option linter.unusedVariables false

/-- A command on an item leaves a right cart. -/
theorem l7 {xs : List Int} {l : List aA} (h : aE xs l = true) {d : Nat} (hd : d < 4) {kind : Int} {item : ByteArray} {qty : Int} (h0 : (eA xs l d kind item qty).1 = 0) : aE (eA xs l d kind item qty).2.1 (eA xs l d kind item qty).2.2 = true := by
 unfold eA at h0 ⊢
 dsimp only at h0 ⊢
 split at h0
 ·rename_i h1
  rw [if_pos h1]
  split at h0
  ·rename_i h2
   rw [if_pos h2]; exact K8 h hd h2
  ·cases h0
 ·rename_i h1
  exact absurd h0 h1
/-- Some items are removed, one command after another. -/
def nN (d : Nat) : List ByteArray → List Int → List aA → Int × List Int × List aA
 | [], zs, m => (0, zs, m)
 | s :: U, zs, m => if (eA zs m d 3 s 0).1 = 0 then nN d U (eA zs m d 3 s 0).2.1 (eA zs m d 3 s 0).2.2 else ((eA zs m d 3 s 0).1, [], [])
def C5 (l : List aA) (d : Nat) : List ByteArray → List Int × List aA × Int → Option (List Int × List aA × Int)
 | [], q => some q
 | s :: L, q => (fU l d s q).bind (C5 l d L)
theorem aDl (l : List aA) (d : Nat) (s : ByteArray) : ∀ (A : List ByteArray) (q : List Int × List aA × Int), C5 l d (A ++ [s]) q = (C5 l d A q).bind (fU l d s)
 | [], q => by
  show (fU l d s q).bind (C5 l d []) = fU l d s q
  cases fU l d s q <;> rfl
 | a :: A, q => by
  show (fU l d a q).bind (C5 l d (A ++ [s])) = ((fU l d a q).bind (C5 l d A)).bind (fU l d s)
  cases fU l d a q with
  | none => rfl
  | some q' => exact aDl l d s A q'
theorem aBO (xs : List Int) (l : List aA) (d : Nat) (L : List ByteArray) : ∀ k, k ≤ L.length → jF xs l d L k = C5 l d (L.take k) (xs, l, 2)
 | 0, _ => rfl
 | k + 1, h => by
  have e : L.take (k + 1) = L.take k ++ [L.getD k ⟨#[]⟩] := by
   rw [List.take_succ_eq_append_getElem (by omega), List.getD_eq_getElem?_getD, List.getElem?_eq_getElem (by omega)]; rfl
  rw [e, aDl, ← aBO xs l d L k (by omega)]
  rfl
theorem aLU {zs : List Int} {m l : List aA} {d : Nat} {s : ByteArray} (h1 : aG s m m.length = aG s l l.length) (h2 : aG s l l.length % 2 = 1) : eA zs m d 3 s 0 = if (aJ zs m d (mL l s)).ok = true then (0, dU zs d, bO m d (aJ zs m d (mL l s))) else (4, [], []) := by
 unfold eA
 have e : oneOf (aG s m m.length) (bG m s) 3 s 0 = (mL l s, 0) := by
  unfold oneOf mL; rw [h1, if_neg (by decide), if_pos h2, if_neg (by decide), if_pos rfl]
 dsimp only
 rw [e]
 dsimp only
 rw [if_pos rfl]
theorem aGI {l : List aA} {d : Nat} (hd : d < 4) : ∀ (L : List ByteArray) (zs : List Int) (m : List aA) (c : Int), aE zs m = true → (∀ s, s ∈ L → aG s m m.length = aG s l l.length ∧ aG s l l.length % 2 = 1) → L.Nodup →
  match C5 l d L (zs, m, c) with
  | none => nN d (L.filter fun s => !bG l s) zs m = (4, [], []) ∧ (L.filter fun s => !bG l s) ≠ []
  | some q => nN d (L.filter fun s => !bG l s) zs m = (0, q.1, q.2.1) ∧ q.2.2 = (if (L.filter fun s => !bG l s) = [] then c else 0)
 | [], zs, m, c, _, _, _ => ⟨rfl, rfl⟩
 | s :: L, zs, m, c, hc, hl, hn => by
  have D2 := List.nodup_cons.1 hn; have hs := hl s (by simp)
  show match (fU l d s (zs, m, c)).bind (C5 l d L) with
   | none => _
   | some q => _
  rcases hsv : bG l s with _ | _
  ·have ef : ((s :: L).filter fun s => !bG l s) = s :: (L.filter fun s => !bG l s) := by rw [List.filter_cons, if_pos (by rw [hsv]; rfl)]
   rw [ef]; have e1 := aLU (zs := zs) (m := m) (d := d) hs.1 hs.2; unfold fU; rw [if_neg (by rw [hsv]; decide)]
   dsimp only
   rcases hok : (aJ zs m d (mL l s)).ok with _ | _
   ·rw [if_neg (by decide)]
    rw [hok, if_neg (by decide)] at e1
    refine ⟨?_, by simp⟩
    show (if (eA zs m d 3 s 0).1 = 0 then _ else _) = _
    rw [e1]
    rfl
   ·rw [if_pos rfl]
    rw [hok, if_pos rfl] at e1; have ih := aGI hd L (dU zs d) (bO m d (aJ zs m d (mL l s))) 0 (K8 hc hd hok) (fun x hx => by
     have q9 := hl x (by simp [hx])
     have bH : (aJ zs m d (mL l s)).item ≠ x := fun e => D2.1 (by
      have e : s = x := e; rw [e]; exact hx)
     exact ⟨(aFM bH).trans q9.1, q9.2⟩) D2.2
    have eu : nN d (s :: L.filter fun s => !bG l s) zs m = nN d (L.filter fun s => !bG l s) (dU zs d) (bO m d (aJ zs m d (mL l s))) := by
     show (if (eA zs m d 3 s 0).1 = 0 then _ else _) = _
     rw [e1]
     rfl
    rw [eu]
    show match C5 l d L (dU zs d, bO m d (aJ zs m d (mL l s)), 0) with
     | none => _
     | some q => _
    cases hq : C5 l d L (dU zs d, bO m d (aJ zs m d (mL l s)), 0) with
    | none => rw [hq] at ih; exact ⟨ih.1, by simp⟩
    | some q =>
     rw [hq] at ih; refine ⟨ih.1, ?_⟩
     have := ih.2; rw [if_neg (by simp), this]
     split <;> rfl
  ·have ef : ((s :: L).filter fun s => !bG l s) = (L.filter fun s => !bG l s) := by rw [List.filter_cons, if_neg (by rw [hsv]; decide)]
   rw [ef]; unfold fU; rw [if_pos hsv]; exact aGI hd L zs m c hc (fun x hx => hl x (by simp [hx])) D2.2
theorem aFi (l : List aA) (k : Nat) : (bW l k).Nodup := by
 have h := tZ l k
 unfold Asc at h
 exact h.imp fun {a b} hab e => by
  subst e; rw [I4] at hab; cases hab
/-- What is cleared is what is shown and not saved, one removal after another. -/
theorem V5 {xs : List Int} {l : List aA} (h : aE xs l = true) {d : Nat} (hd : d < 4) : sS xs l d = if ((bW l l.length).filter fun s => !bG l s) = [] then (2, [], []) else nN d ((bW l l.length).filter fun s => !bG l s) xs l := by
 have hu := aGI (l := l) hd (bW l l.length) xs l 2 h (fun s hs => ⟨rfl, ((mW l s l.length).1 hs).1⟩) (aFi l l.length)
 unfold sS
 rw [aBO xs l d _ _ aRC, List.take_length]
 cases hq : C5 l d (bW l l.length) (xs, l, 2) with
 | none =>
  rw [hq] at hu; rw [if_neg hu.2, hu.1]
 | some q =>
  rw [hq] at hu; have h2 := hu.2
  dsimp only
  split
  ·rename_i h0
   split at h2
   ·omega
   ·rename_i bH
    rw [if_neg bH, hu.1]
  ·rename_i h0
   split at h2
   ·rename_i he
    rw [if_pos he]
   ·exact absurd h2 h0
end Go.Proofs.YthkagbnpcjidfaaGreatDoor
