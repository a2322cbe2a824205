/- Walks and mathematics that several claims share, part 43. -/
import Derived.Test.YtjokbaaommicmaaGreatDoorGb42
import Derived.Test.YtjokbaaommicmaaGreatDoorGb32
import Derived.Deep.Cut
import Derived.Test.YtjokbaaommicmaaGreatDoorGbA
namespace Go.Proofs.YtjokbaaommicmaaGreatDoor
set_option maxRecDepth 100000
open Go.RowKit
set_option linter.unusedVariables false

theorem putAt_st {xs : List Int} {l : List OpV} (h : cartB xs l = true) {d : Nat} (hd : d < 4) : putAt (d : Int) l = stOf xs (d + 1) := by
 obtain ⟨_, hdv, h4⟩ := cart_true h
 have hle := putAt_le (d : Int) l
 have hm : stOf xs (d + 1) ≤ l.length := by rw [← h4]; exact stOf_mono xs _ _ (by omega)
 rcases Nat.lt_trichotomy (putAt (d : Int) l) (stOf xs (d + 1)) with g | g | g
 ·exfalso
  have hlt : putAt (d : Int) l < l.length := by omega
  have he := putAt_end hlt
  obtain ⟨e, he4, h1, h2, _, hde, _⟩ := cart_at h hlt
  apply he
  rw [hde]
  rcases Nat.lt_or_ge d e with q | q
  ·have := stOf_mono xs (d + 1) e q; omega
  ·omega
 ·exact g
 ·exfalso
  have hlt : stOf xs (d + 1) < l.length := by omega
  have ha := putAt_at g
  obtain ⟨e, he4, h1, h2, _, hde, _⟩ := cart_at h hlt
  rw [hde] at ha
  have := stOf_mono xs (e + 1) (d + 1) (by omega)
  omega
theorem put_lt {l : List OpV} {d i : Nat} (o : OpV) (hi : i < putAt (d : Int) l) : atOp (putL l d o) i = atOp l i := by
 have hle := putAt_le (d : Int) l
 unfold atOp putL
 rw [List.getD_eq_getElem?_getD, List.getD_eq_getElem?_getD, List.append_assoc, List.getElem?_append_left (by rw [List.length_take]; omega), List.getElem?_take_of_lt hi]
theorem put_eq (l : List OpV) (d : Nat) (o : OpV) : atOp (putL l d o) (putAt (d : Int) l) = o := by
 have hle := putAt_le (d : Int) l
 unfold atOp putL
 rw [List.getD_eq_getElem?_getD, List.append_assoc, List.getElem?_append_right (by rw [List.length_take]; omega), List.length_take, Nat.min_eq_left hle, Nat.sub_self]
 rfl
theorem put_gt {l : List OpV} {d i : Nat} (o : OpV) (hi : putAt (d : Int) l ≤ i) : atOp (putL l d o) (i + 1) = atOp l i := by
 have hle := putAt_le (d : Int) l
 unfold atOp putL
 rw [List.getD_eq_getElem?_getD, List.getD_eq_getElem?_getD, List.append_assoc, List.getElem?_append_right (by rw [List.length_take]; omega), List.length_take, Nat.min_eq_left hle, show i + 1 - putAt (d : Int) l = (i - putAt (d : Int) l) + 1 by omega]
 show (([o] ++ l.drop (putAt (d : Int) l))[(i - putAt (d : Int) l) + 1]?).getD _ = _
 rw [List.getElem?_append_right (by show 1 ≤ _; omega)]
 show ((l.drop (putAt (d : Int) l))[(i - putAt (d : Int) l) + 1 - 1]?).getD _ = _
 rw [List.getElem?_drop]
 congr 2
 omega
theorem putV_at {xs : List Int} {d e : Nat} (hl : xs.length = 4) (hd : d < 4) : (putV xs d).getD e 0 = if d = e then xs.getD d 0 + 1 else xs.getD e 0 := by
 unfold putV
 exact set_getD (by omega)
theorem stOf_put {xs : List Int} {d : Nat} (hl : xs.length = 4) (hd : d < 4) (h0 : 0 ≤ xs.getD d 0) : ∀ e, stOf (putV xs d) e = if e ≤ d then stOf xs e else stOf xs e + 1
 | 0 => by rw [if_pos (Nat.zero_le _)]; rfl
 | e + 1 => by
  show stOf (putV xs d) e + ((putV xs d).getD e 0).toNat = _
  rw [stOf_put hl hd h0 e, putV_at hl hd]
  have hs : stOf xs (e + 1) = stOf xs e + (xs.getD e 0).toNat := rfl
  rcases Nat.lt_trichotomy e d with g | g | g
  ·rw [if_pos (by omega : e ≤ d), if_neg (by omega : ¬ d = e), if_pos (by omega : e + 1 ≤ d), hs]
  ·subst g
   rw [if_pos (Nat.le_refl e), if_pos rfl, if_neg (by omega : ¬ e + 1 ≤ e), hs]
   omega
  ·rw [if_neg (by omega : ¬ e ≤ d), if_neg (by omega : ¬ d = e), if_neg (by omega : ¬ e + 1 ≤ d), hs]
   omega
theorem stampTo_ge (l : List OpV) : ∀ k i, i < k → (atOp l i).stamp ≤ stampTo l k
 | k + 1, i, h => by
  rw [stampTo]
  rcases Nat.lt_or_ge i k with g | g
  ·have := stampTo_ge l k i g; omega
  ·obtain rfl : i = k := by omega
   omega
theorem devB_parts {xs : List Int} {l : List OpV} {d : Nat} : devB xs l d = true ↔ stOf xs (d + 1) ≤ l.length ∧ ∀ s, s < (xs.getD d 0).toNat → fitB l d (stOf xs d) s = true := by
 unfold devB runB
 simp only [Bool.and_eq_true, decide_eq_true_eq, List.all_eq_true, List.mem_range]
theorem vecOk_of {xs : List Int} (hl : xs.length = 4) (h : ∀ d, d < 4 → 0 ≤ xs.getD d 0 ∧ xs.getD d 0 ≤ 40) : vecOk xs = true := by
 unfold vecOk
 rw [Bool.and_eq_true]
 refine ⟨?_, decide_eq_true hl⟩
 rw [List.all_eq_true]
 intro x hx
 obtain ⟨i, hi, e⟩ := List.mem_iff_getElem.1 hx
 have e2 : xs.getD i 0 = x := by rw [List.getD_eq_getElem?_getD, List.getElem?_eq_getElem hi]; exact e
 have := h i (by omega)
 rw [← e2]
 unfold inV
 rw [Bool.and_eq_true]
 exact ⟨decide_eq_true (by omega), decide_eq_true (by omega)⟩
/-- A device's next operation, put in. -/
theorem cart_put {xs : List Int} {l : List OpV} (h : cartB xs l = true) {d : Nat} (hd : d < 4) {o : OpV} (hok : (nextOp xs l d o).ok = true) : cartB (putV xs d) (putL l d (nextOp xs l d o)) = true := by
 obtain ⟨hv, hdv, h4⟩ := cart_true h
 have hl := (vec_at hv (d := 0) (by omega)).2.2
 have hxd := vec_at hv hd
 have hb := op_bounds hok
 have hseq : (nextOp xs l d o).seq = xs.getD d 0 + 1 := rfl
 have hdev : (nextOp xs l d o).dev = (d : Int) := rfl
 have hst : (nextOp xs l d o).stamp = stampTo l l.length + 1 := rfl
 have hp := putAt_st h hd
 have hlp : (putL l d (nextOp xs l d o)).length = l.length + 1 := putL_len l d _
 have hd1 : stOf xs (d + 1) = stOf xs d + (xs.getD d 0).toNat := rfl
 have hd1l : stOf xs (d + 1) ≤ l.length := by rw [← h4]; exact stOf_mono xs _ _ (by omega)
 have hs := stOf_put hl hd hxd.1
 have hlt := fun i => put_lt (l := l) (d := d) (i := i) (nextOp xs l d o)
 have heq := put_eq l d (nextOp xs l d o)
 have hgt := fun i => put_gt (l := l) (d := d) (i := i) (nextOp xs l d o)
 generalize nextOp xs l d o = x at *
 rw [hp] at hlt heq hgt
 have hvo : vecOk (putV xs d) = true := vecOk_of (by unfold putV; rw [List.length_set]; exact hl) fun e he => by
  rw [putV_at hl hd]
  have := vec_at hv he
  split <;> omega
 unfold cartB
 rw [Bool.and_eq_true, Bool.and_eq_true]
 refine ⟨hvo, ?_, ?_⟩
 ·rw [List.all_eq_true]
  intro e he
  have he : e < 4 := List.mem_range.1 he
  have hE := devB_parts.1 (hdv e he)
  rw [devB_parts, hs e, hs (e + 1), hlp, putV_at hl hd]
  have hse : stOf xs (e + 1) = stOf xs e + (xs.getD e 0).toNat := rfl
  refine ⟨by split <;> omega, fun s hsl => ?_⟩
  rcases Nat.lt_trichotomy e d with g | g | g
  ·rw [if_neg (by omega)] at hsl
   rw [if_pos (by omega)]
   have hm := stOf_mono xs (e + 1) d g
   obtain ⟨f1, f2, f3, f4⟩ := fit_parts (hE.2 s hsl)
   have e1 := hlt (stOf xs e + s) (by omega)
   refine fit_yes (by rw [e1]; exact f1) (by rw [e1]; exact f2) (by rw [e1]; exact f3) ?_
   rw [e1]
   unfold prevStamp at f4 ⊢
   split
   ·rename_i h0; rw [if_pos h0] at f4; exact f4
   ·rename_i h0; rw [if_neg h0] at f4; rw [hlt _ (by omega)]; exact f4
  ·subst g
   rw [if_pos rfl] at hsl
   rw [if_pos (Nat.le_refl _)]
   rcases Nat.lt_or_ge s (xs.getD e 0).toNat with q | q
   ·obtain ⟨f1, f2, f3, f4⟩ := fit_parts (hE.2 s q)
    have e1 := hlt (stOf xs e + s) (by omega)
    refine fit_yes (by rw [e1]; exact f1) (by rw [e1]; exact f2) (by rw [e1]; exact f3) ?_
    rw [e1]
    unfold prevStamp at f4 ⊢
    split
    ·rename_i h0; rw [if_pos h0] at f4; exact f4
    ·rename_i h0; rw [if_neg h0] at f4; rw [hlt _ (by omega)]; exact f4
   ·have e0 : stOf xs e + s = stOf xs (e + 1) := by omega
    have e1 : atOp (putL l e x) (stOf xs e + s) = x := by rw [e0]; exact heq
    refine fit_yes (by rw [e1]; exact hok) (by rw [e1]; exact hdev) (by rw [e1, hseq]; omega) ?_
    rw [e1, hst]
    have hsp := stampTo_pos l l.length
    unfold prevStamp
    split
    ·omega
    ·rename_i h0
     rw [hlt _ (by omega)]
     have := stampTo_ge l l.length (stOf xs e + s - 1) (by omega)
     omega
  ·rw [if_neg (by omega)] at hsl
   rw [if_neg (by omega)]
   have hm := stOf_mono xs (d + 1) e g
   obtain ⟨f1, f2, f3, f4⟩ := fit_parts (hE.2 s hsl)
   have e1 : atOp (putL l d x) (stOf xs e + 1 + s) = atOp l (stOf xs e + s) := by
    rw [show stOf xs e + 1 + s = stOf xs e + s + 1 by omega]
    exact hgt _ (by omega)
   refine fit_yes (by rw [e1]; exact f1) (by rw [e1]; exact f2) (by rw [e1]; exact f3) ?_
   rw [e1]
   unfold prevStamp at f4 ⊢
   split
   ·rename_i h0; rw [if_pos h0] at f4; exact f4
   ·rename_i h0
    rw [if_neg h0] at f4
    rw [show stOf xs e + 1 + s - 1 = stOf xs e + s - 1 + 1 by omega, hgt _ (by omega)]
    exact f4
 ·rw [decide_eq_true_eq, hs 4, hlp, if_neg (by omega)]
  omega
/-- An operation undone once more. -/
theorem cart_tog {xs : List Int} {l : List OpV} (h : cartB xs l = true) {i : Nat} (hi : i < l.length) (hu : (atOp l i).undos ≠ 50) : cartB xs (togU l i) = true := by
 obtain ⟨hv, hdv, h4⟩ := cart_true h
 have hl := togL_len l i
 have hat : ∀ j, atOp (togU l i) j = if i = j then onceMore (atOp l i) else atOp l j := fun j => by
  unfold togU atOp
  exact set_getD hi
 have hub := op_bounds (cart_op h hi)
 have hst : ∀ j, (atOp (togU l i) j).stamp = (atOp l j).stamp := fun j => by
  rw [hat]
  split
  ·rename_i e; subst e; rfl
  ·rfl
 unfold cartB
 rw [Bool.and_eq_true, Bool.and_eq_true]
 refine ⟨hv, ?_, ?_⟩
 ·rw [List.all_eq_true]
  intro e he
  have he : e < 4 := List.mem_range.1 he
  have hE := devB_parts.1 (hdv e he)
  rw [devB_parts, hl]
  refine ⟨hE.1, fun s hs => ?_⟩
  obtain ⟨f1, f2, f3, f4⟩ := fit_parts (hE.2 s hs)
  have hpv : prevStamp (togU l i) (stOf xs e) s = prevStamp l (stOf xs e) s := by
   unfold prevStamp
   split
   ·rfl
   ·exact hst _
  refine fit_yes ?_ ?_ ?_ (by rw [hpv, hst]; exact f4)
  all_goals
   rw [hat]
   split
  ·rename_i e2
   subst e2
   exact ok_with (a := atOp l (stOf xs e + s)) f1 (u := (atOp l (stOf xs e + s)).undos + 1) (by omega) (by omega)
  ·exact f1
  ·rename_i e2; subst e2; exact f2
  ·exact f2
  ·rename_i e2; subst e2; exact f3
  ·exact f3
 ·rw [decide_eq_true_eq, hl]; exact h4
/-- The level of an item, over a list. -/
def levL (x : ByteArray) (l : List OpV) : Int := l.foldl (fun a o => if o.item = x ∧ o.undos % 2 = 0 then max a o.level else a) 0
theorem take_snoc {l : List OpV} {k : Nat} (h : k < l.length) : l.take (k + 1) = l.take k ++ [l.getD k OpV.zero] := by
 rw [List.take_succ_eq_append_getElem h, List.getD_eq_getElem?_getD, List.getElem?_eq_getElem h]; rfl
theorem lev_list (x : ByteArray) (l : List OpV) : ∀ k, k ≤ l.length → levTo x l k = levL x (l.take k)
 | 0, _ => rfl
 | k + 1, h => by
  rw [levTo, take_snoc (by omega), lev_list x l k (by omega)]
  unfold levL
  rw [List.foldl_append]
  rfl
theorem lev_all (x : ByteArray) (l : List OpV) : levTo x l l.length = levL x l := by rw [lev_list x l _ (Nat.le_refl _), List.take_length]
theorem lev_put {x : ByteArray} {l : List OpV} {d : Nat} {o : OpV} (h : o.item ≠ x) : levTo x (putL l d o) (putL l d o).length = levTo x l l.length := by
 rw [lev_all, lev_all]
 have e : l = l.take (putAt (d : Int) l) ++ l.drop (putAt (d : Int) l) := (List.take_append_drop _ _).symm
 show levL x (l.take (putAt (d : Int) l) ++ [o] ++ l.drop (putAt (d : Int) l)) = levL x l
 conv => rhs; rw [e]
 unfold levL
 rw [List.foldl_append, List.foldl_append, List.foldl_append]
 congr 1
 show (if o.item = x ∧ o.undos % 2 = 0 then _ else _) = _
 rw [if_neg (fun q => h q.1)]
/-- The place of an operation, by its device and number. -/
theorem place_has {xs : List Int} {l : List OpV} (h : cartB xs l = true) {d : Nat} (hd : d < 4) {s : Int} (h1 : 1 ≤ s) (h2 : s ≤ xs.getD d 0) : (stOf xs d + (s.toNat - 1)) < l.length ∧ nameAt l (d : Int) s = stOf xs d + (s.toNat - 1) := by
 obtain ⟨a, b⟩ := cart_has h hd (s := s.toNat - 1) (by omega)
 refine ⟨a, name_at h a b.1 ?_⟩
 rw [b.2]
 omega
theorem place_no {xs : List Int} {l : List OpV} (h : cartB xs l = true) {d : Nat} (hd : d < 4) {s : Int} (hs : ¬ (1 ≤ s ∧ s ≤ xs.getD d 0)) : ¬ nameAt l (d : Int) s < l.length := name_none fun j hj ⟨e1, e2⟩ => by
 obtain ⟨e, he, a1, a2, _, a3, a4⟩ := cart_at h hj
 have hde : d = e := by rw [a3] at e1; omega
 subst hde
 have hv := vec_at (cart_true h).1 hd
 have : stOf xs (d + 1) = stOf xs d + (xs.getD d 0).toNat := rfl
 rw [a4] at e2
 omega
set_option linter.unusedVariables false
set_option linter.unusedSimpArgs false

set_option maxHeartbeats 20000000 in
theorem lastStampW (w : World) (B : Nat) (a : Option Addr) (n cap : Nat) (l : List OpV) (h : Ops w B a n l) (hB : B ≤ w.heap.size) (hn : n ≤ 1048576) : Calls Tryz.prog 135 #[.slice a n cap] w fun e w' => e = .returned (.int .i64 (stampTo l l.length)) ∧ Below w.heap.size w w' := by
 have H := Lib.hid h
 have HL := Lib.hid h.1
 clear h
 go_enter Tryz.func135, Tryz.ntmps135
 go_wp2
 go_loopw [3, 8] (fun s i wr => ∃ k : Nat, k ≤ n ∧ i = .int .i64 (k : Int) ∧ s = .int .i64 (stampTo l k) ∧ Hid (Below w.heap.size w wr)) (fun _ i _ => n - (intOf i).toNat)
 case atStart => exact ⟨0, Nat.zero_le _, rfl, rfl, Below.refl _ _⟩
 case round =>
  obtain ⟨k, hk, rfl, rfl, HB⟩ := hrel
  by_cases hlt : k < n
  rotate_left
  ·obtain rfl : k = n := by omega
   go_wp2
   go_ret
   exact ⟨by rw [HL.out]; rfl, HB.out⟩
  obtain ⟨b, off, rfl, hb, ho⟩ := H.out.2 k hlt
  obtain ⟨c0, c1, c2, c3, c4, c5, c6, c7⟩ := ho.kept (HB.out.block b (by omega))
  clear ho
  have HU : Hid (stampTo l (k + 1) = max (stampTo l k) (l.getD k OpV.zero).stamp) := rfl
  generalize l.getD k OpV.zero = x at HU c0 c1 c2 c3 c4 c5 c6 c7
  generalize hst : stampTo l k = st at HU ⊢
  clear hst
  go_upto_region 5 with fail
  have HX := Lib.hid (boxAt (Below.refl _ (wr.alloc (.cells #[.int .i64 x.dev, .int .i64 x.seq, .int .i64 x.stamp, .int .i64 x.kind, .string x.item, .int .i64 x.qty, .int .i64 x.level, .int .i64 x.undos] 93))))
  have HB1 := Lib.hid (HB.out.alloc HB.out.size (.cells #[.int .i64 x.dev, .int .i64 x.seq, .int .i64 x.stamp, .int .i64 x.kind, .string x.item, .int .i64 x.qty, .int .i64 x.level, .int .i64 x.undos] 93))
  generalize wr.alloc (.cells #[.int .i64 x.dev, .int .i64 x.seq, .int .i64 x.stamp, .int .i64 x.kind, .string x.item, .int .i64 x.qty, .int .i64 x.level, .int .i64 x.undos] 93) = w1 at HX HB1 ⊢
  generalize wr.heap.size = bo at HX ⊢
  clear c0 c1 c2 c3 c4 c5 c6 c7 HB
  obtain ⟨d0, d1, d2, d3, d4, d5, d6, d7⟩ := op_cells HX.out
  go_wp2
  go_roundw
  case rel => exact ⟨k + 1, by omega, by go_num, by rw [HU.out], HB1⟩
  case measure => simp [intOf]; omega
set_option maxHeartbeats 20000000 in
/-- The place of a device's number: what stands ahead of the device, and the numbers below. -/
theorem placeOfW (w : World) (B : Nat) (av ao : Option Addr) (cv no co d : Nat) (xs : List Int) (hx : Ints w B av 4 xs) (hB : B ≤ w.heap.size) (hcv : 4 ≤ cv) (hd : d < 4) (hv : vecOk xs = true) (s : Int) (h1 : 1 ≤ s) (h2 : s ≤ 1000) :
  Calls Tryz.prog 120 #[.agg #[.slice av 4 cv, .slice ao no co], .int .i64 (d : Int), .int .i64 s] w fun e w' => e = .returned (.int .i64 ((stOf xs d + (s.toNat - 1) : Nat) : Int)) ∧ Below w.heap.size w w' := by
 have hb0 : Below w.heap.size w (w.alloc (.cells #[.slice av 4 cv, .slice ao no co] 32)) := (Below.refl _ w).alloc (Nat.le_refl _) _
 have HV := Lib.hid (hx.below hb0 hB)
 have HB := Lib.hid hb0
 have HX := Lib.hid (boxAt (Below.refl _ (w.alloc (.cells #[.slice av 4 cv, .slice ao no co] 32))))
 have HVo := Lib.hid hv
 clear hx hb0 hv
 obtain ⟨b, off, hav, _⟩ := HV.out.2 0 (by omega)
 subst hav
 go_enter Tryz.func120, Tryz.ntmps120
 go_upto_region 1 with fail
 generalize w.alloc (.cells #[.slice (some ⟨b, off, none⟩) 4 cv, .slice ao no co] 32) = w0 at HV HB HX ⊢
 obtain ⟨c0, c1⟩ := pair_cells HX.out
 have hdi : (d : Int) ≤ 4 := by omega
 have hdc : (d : Int) ≤ (cv : Int) := by omega
 have hws : IntKind.i64.wrap (s - 1) = s - 1 := IntWalk.i64_in _ (by omega)
 go_wp2
 go_loopw [7, 17] (fun p i wr => ∃ k : Nat, k ≤ d ∧ i = .int .i64 (k : Int) ∧ p = .int .i64 (s - 1 + (stOf xs k : Int)) ∧ wr = w0) (fun _ i _ => d - (intOf i).toNat)
 case atStart => exact ⟨0, Nat.zero_le _, rfl, by show _ = Value.int .i64 (s - 1 + ((0 : Nat) : Int)); simp, rfl⟩
 case round =>
  obtain ⟨k, hk, rfl, rfl, rfl⟩ := hrel
  by_cases hlt : k < d
  rotate_left
  ·obtain rfl : k = d := by omega
   have he : s - 1 + (stOf xs k : Int) = ((stOf xs k + (s.toNat - 1) : Nat) : Int) := by omega
   rw [he]
   go_wp2
   go_ret
   exact ⟨rfl, HB.out⟩
  obtain ⟨b', o', e, hb, hc⟩ := HV.out.2 k (by omega)
  injection e with e
  injection e with e1 e2
  subst e1 e2
  have hvk := vec_at HVo.out (d := k) (by omega)
  have hsk := stOf_le HVo.out k (by omega)
  have hstep : (stOf xs (k + 1) : Int) = (stOf xs k : Int) + xs.getD k 0 := by
   show ((stOf xs k + (xs.getD k 0).toNat : Nat) : Int) = _
   omega
  have HSt := Lib.hid hstep
  clear hstep
  have hki : (k : Int) < (d : Int) := by omega
  generalize xs.getD k 0 = y at hc hvk HSt
  generalize hq : (stOf xs k : Int) = q at HSt ⊢
  have hq0 : 0 ≤ q ∧ q ≤ 160 := by omega
  clear hq hsk
  have hwp : IntKind.i64.wrap (s - 1 + q + y) = s - 1 + q + y := IntWalk.i64_in _ (by omega)
  go_wp2
  go_roundw
  case rel => exact ⟨k + 1, by omega, by go_num, by rw [HSt.out]; congr 1; omega, trivial⟩
  case measure => simp [intOf]; omega
set_option linter.unusedVariables false

/-- A command on an item leaves a right cart. -/
theorem oneN_cart {xs : List Int} {l : List OpV} (h : cartB xs l = true) {d : Nat} (hd : d < 4) {kind : Int} {item : ByteArray} {qty : Int} (h0 : (oneN xs l d kind item qty).1 = 0) : cartB (oneN xs l d kind item qty).2.1 (oneN xs l d kind item qty).2.2 = true := by
 unfold oneN at h0 ⊢
 dsimp only at h0 ⊢
 split at h0
 ·rename_i h1
  rw [if_pos h1]
  split at h0
  ·rename_i h2
   rw [if_pos h2]
   exact cart_put h hd h2
  ·cases h0
 ·rename_i h1
  exact absurd h0 h1
/-- Some items are removed, one command after another. -/
def clrU (d : Nat) : List ByteArray → List Int → List OpV → Int × List Int × List OpV
 | [], zs, m => (0, zs, m)
 | s :: U, zs, m => if (oneN zs m d 3 s 0).1 = 0 then clrU d U (oneN zs m d 3 s 0).2.1 (oneN zs m d 3 s 0).2.2 else ((oneN zs m d 3 s 0).1, [], [])
def clrL (l : List OpV) (d : Nat) : List ByteArray → List Int × List OpV × Int → Option (List Int × List OpV × Int)
 | [], q => some q
 | s :: L, q => (clrStep l d s q).bind (clrL l d L)
theorem clrL_snoc (l : List OpV) (d : Nat) (s : ByteArray) : ∀ (A : List ByteArray) (q : List Int × List OpV × Int), clrL l d (A ++ [s]) q = (clrL l d A q).bind (clrStep l d s)
 | [], q => by
  show (clrStep l d s q).bind (clrL l d []) = clrStep l d s q
  cases clrStep l d s q <;> rfl
 | a :: A, q => by
  show (clrStep l d a q).bind (clrL l d (A ++ [s])) = ((clrStep l d a q).bind (clrL l d A)).bind (clrStep l d s)
  cases clrStep l d a q with
  | none => rfl
  | some q' => exact clrL_snoc l d s A q'
theorem clrTo_list (xs : List Int) (l : List OpV) (d : Nat) (L : List ByteArray) : ∀ k, k ≤ L.length → clrTo xs l d L k = clrL l d (L.take k) (xs, l, 2)
 | 0, _ => rfl
 | k + 1, h => by
  have e : L.take (k + 1) = L.take k ++ [L.getD k ⟨#[]⟩] := by
   rw [List.take_succ_eq_append_getElem (by omega), List.getD_eq_getElem?_getD, List.getElem?_eq_getElem (by omega)]; rfl
  rw [e, clrL_snoc, ← clrTo_list xs l d L k (by omega)]
  rfl
theorem one_rem {zs : List Int} {m l : List OpV} {d : Nat} {s : ByteArray} (h1 : levTo s m m.length = levTo s l l.length) (h2 : levTo s l l.length % 2 = 1) : oneN zs m d 3 s 0 = if (nextOp zs m d (remOp l s)).ok = true then (0, putV zs d, putL m d (nextOp zs m d (remOp l s))) else (4, [], []) := by
 unfold oneN
 have e : oneOf (levTo s m m.length) (savedL m s) 3 s 0 = (remOp l s, 0) := by
  unfold oneOf remOp
  rw [h1, if_neg (by decide), if_pos h2, if_neg (by decide), if_pos rfl]
 dsimp only
 rw [e]
 dsimp only
 rw [if_pos rfl]
theorem clr_u {l : List OpV} {d : Nat} (hd : d < 4) : ∀ (L : List ByteArray) (zs : List Int) (m : List OpV) (c : Int), cartB zs m = true → (∀ s, s ∈ L → levTo s m m.length = levTo s l l.length ∧ levTo s l l.length % 2 = 1) → L.Nodup →
  match clrL l d L (zs, m, c) with
  | none => clrU d (L.filter fun s => !savedL l s) zs m = (4, [], []) ∧ (L.filter fun s => !savedL l s) ≠ []
  | some q => clrU d (L.filter fun s => !savedL l s) zs m = (0, q.1, q.2.1) ∧ q.2.2 = (if (L.filter fun s => !savedL l s) = [] then c else 0)
 | [], zs, m, c, _, _, _ => ⟨rfl, rfl⟩
 | s :: L, zs, m, c, hc, hl, hn => by
  have hn2 := List.nodup_cons.1 hn
  have hs := hl s (by simp)
  show match (clrStep l d s (zs, m, c)).bind (clrL l d L) with
   | none => _
   | some q => _
  rcases hsv : savedL l s with _ | _
  ·have ef : ((s :: L).filter fun s => !savedL l s) = s :: (L.filter fun s => !savedL l s) := by rw [List.filter_cons, if_pos (by rw [hsv]; rfl)]
   rw [ef]
   have e1 := one_rem (zs := zs) (m := m) (d := d) hs.1 hs.2
   unfold clrStep
   rw [if_neg (by rw [hsv]; decide)]
   dsimp only
   rcases hok : (nextOp zs m d (remOp l s)).ok with _ | _
   ·rw [if_neg (by decide)]
    rw [hok, if_neg (by decide)] at e1
    refine ⟨?_, by simp⟩
    show (if (oneN zs m d 3 s 0).1 = 0 then _ else _) = _
    rw [e1]
    rfl
   ·rw [if_pos rfl]
    rw [hok, if_pos rfl] at e1
    have ih := clr_u hd L (putV zs d) (putL m d (nextOp zs m d (remOp l s))) 0 (cart_put hc hd hok) (fun x hx => by
     have hx2 := hl x (by simp [hx])
     have hne : (nextOp zs m d (remOp l s)).item ≠ x := fun e => hn2.1 (by
      have e : s = x := e
      rw [e]; exact hx)
     exact ⟨(lev_put hne).trans hx2.1, hx2.2⟩) hn2.2
    have eu : clrU d (s :: L.filter fun s => !savedL l s) zs m = clrU d (L.filter fun s => !savedL l s) (putV zs d) (putL m d (nextOp zs m d (remOp l s))) := by
     show (if (oneN zs m d 3 s 0).1 = 0 then _ else _) = _
     rw [e1]
     rfl
    rw [eu]
    show match clrL l d L (putV zs d, putL m d (nextOp zs m d (remOp l s)), 0) with
     | none => _
     | some q => _
    cases hq : clrL l d L (putV zs d, putL m d (nextOp zs m d (remOp l s)), 0) with
    | none => rw [hq] at ih; exact ⟨ih.1, by simp⟩
    | some q =>
     rw [hq] at ih
     refine ⟨ih.1, ?_⟩
     have := ih.2
     rw [if_neg (by simp), this]
     split <;> rfl
  ·have ef : ((s :: L).filter fun s => !savedL l s) = (L.filter fun s => !savedL l s) := by rw [List.filter_cons, if_neg (by rw [hsv]; decide)]
   rw [ef]
   unfold clrStep
   rw [if_pos hsv]
   exact clr_u hd L zs m c hc (fun x hx => hl x (by simp [hx])) hn2.2
theorem names_nodup (l : List OpV) (k : Nat) : (namesTo l k).Nodup := by
 have h := namesTo_asc l k
 unfold Asc at h
 exact h.imp fun {a b} hab e => by
  subst e
  rw [ltT_self] at hab
  cases hab
/-- What is cleared is what is shown and not saved, one removal after another. -/
theorem clr_impl {xs : List Int} {l : List OpV} (h : cartB xs l = true) {d : Nat} (hd : d < 4) : clrN xs l d = if ((namesTo l l.length).filter fun s => !savedL l s) = [] then (2, [], []) else clrU d ((namesTo l l.length).filter fun s => !savedL l s) xs l := by
 have hu := clr_u (l := l) hd (namesTo l l.length) xs l 2 h (fun s hs => ⟨rfl, ((namesTo_mem l s l.length).1 hs).1⟩) (names_nodup l l.length)
 unfold clrN
 rw [clrTo_list xs l d _ _ (Nat.le_refl _), List.take_length]
 cases hq : clrL l d (namesTo l l.length) (xs, l, 2) with
 | none =>
  rw [hq] at hu
  rw [if_neg hu.2, hu.1]
 | some q =>
  rw [hq] at hu
  have h2 := hu.2
  dsimp only
  split
  ·rename_i h0
   split at h2
   ·omega
   ·rename_i hne
    rw [if_neg hne, hu.1]
  ·rename_i h0
   split at h2
   ·rename_i he
    rw [if_pos he]
   ·exact absurd h2 h0
end Go.Proofs.YtjokbaaommicmaaGreatDoor
