/- Walks and mathematics that several claims share, part 9. -/
import Derived.Test.YtgagchlcafdiaaaGreatGb4
import Derived.Test.YtgagchlcafdiaaaGreatGb7
import Derived.Test.YtgagchlcafdiaaaGreatGb8
import Derived.Deep.Cut
import Derived.Deep.RegionHeld3
import Derived.Test.YtgagchlcafdiaaaGreatGbA
namespace Go.Proofs.YtgagchlcafdiaaaGreat
set_option maxRecDepth 100000
open Go.RowKit
set_option linter.unusedVariables false
set_option linter.unusedSimpArgs false

/-- How many operations the devices before d have. -/
def stOf (xs : List Int) : Nat → Nat
 | 0 => 0
 | d + 1 => stOf xs d + (xs.getD d 0).toNat
def devB (xs : List Int) (l : List OpV) (d : Nat) : Bool := decide (stOf xs (d + 1) ≤ l.length) && runB l d (stOf xs d) (xs.getD d 0).toNat
def cartB (xs : List Int) (l : List OpV) : Bool := vecOk xs && ((List.range 4).all (devB xs l) && decide (stOf xs 4 = l.length))
theorem cart_vec {xs : List Int} {l : List OpV} (h : vecOk xs = false) : cartB xs l = false := by unfold cartB; rw [h]; rfl
theorem cart_dev {xs : List Int} {l : List OpV} {d : Nat} (hd : d < 4) (h : devB xs l d = false) : cartB xs l = false := by
 have e : (List.range 4).all (devB xs l) = false := by
  rw [List.all_eq_false]
  exact ⟨d, by simpa using hd, by simp [h]⟩
 unfold cartB
 rw [e]
 simp
theorem cart_end {xs : List Int} {l : List OpV} (h : vecOk xs = true) (hd : ∀ d, d < 4 → devB xs l d = true) : cartB xs l = decide (stOf xs 4 = l.length) := by
 have e : (List.range 4).all (devB xs l) = true := by
  rw [List.all_eq_true]
  intro d hm
  exact hd d (by simpa using hm)
 unfold cartB
 rw [h, e]
 rfl
theorem vec_at {xs : List Int} (h : vecOk xs = true) {d : Nat} (hd : d < 4) : 0 ≤ xs.getD d 0 ∧ xs.getD d 0 ≤ 40 ∧ xs.length = 4 := by
 unfold vecOk at h
 simp only [Bool.and_eq_true, decide_eq_true_eq, List.all_eq_true] at h
 obtain ⟨h1, h2⟩ := h
 have hm : xs.getD d 0 ∈ xs := by
  rw [List.getD_eq_getElem?_getD, List.getElem?_eq_getElem (by omega)]
  exact List.getElem_mem _
 have := inV_true (h1 _ hm)
 exact ⟨this.1, this.2, h2⟩
theorem Ops.take {w : World} {B : Nat} {a : Option Addr} {n : Nat} {l : List OpV} (h : Ops w B a n l) {c : Nat} (hc : c ≤ n) : Ops w B a c (l.take c) :=
 ⟨by rw [List.length_take, h.1]; omega, fun i hi => by
  obtain ⟨b, off, e, hb, ho⟩ := h.2 i (by omega)
  have e2 : (l.take c).getD i OpV.zero = l.getD i OpV.zero := by rw [List.getD_eq_getElem?_getD, List.getElem?_take_of_lt hi, List.getD_eq_getElem?_getD]
  exact ⟨b, off, e, hb, by rw [e2]; exact ho⟩⟩
theorem Ops.dropMap {w : World} {B : Nat} {a : Option Addr} {n : Nat} {l : List OpV} (h : Ops w B a n l) {c : Nat} (hc : c ≤ n) : Ops w B (Option.map (fun x => x.add (c * 8)) a) (n - c) (l.drop c) :=
 ⟨by rw [List.length_drop, h.1], fun i hi => by
  obtain ⟨b, off, e, hb, ho⟩ := h.2 (c + i) (by omega)
  subst e
  have e3 : (l.drop c).getD i OpV.zero = l.getD (c + i) OpV.zero := by rw [List.getD_eq_getElem?_getD, List.getElem?_drop, List.getD_eq_getElem?_getD]
  exact ⟨b, off + c * 8, by rw [Option.map_some, add_at], hb, by rw [e3, show off + c * 8 + i * 8 = off + (c + i) * 8 by omega]; exact ho⟩⟩
theorem ops_empty {w : World} {B : Nat} {a : Option Addr} {l : List OpV} (h : l.length = 0) : Ops w B a 0 l := ⟨h, fun i hi => by omega⟩

def OpV.val (o : OpV) : Value := .agg #[.int .i64 o.dev, .int .i64 o.seq, .int .i64 o.stamp, .int .i64 o.kind, .string o.item, .int .i64 o.qty, .int .i64 o.level, .int .i64 o.undos]
def OpV.live (o : OpV) : Bool := liveB o.dev o.seq o.stamp o.kind o.item o.qty o.level o.undos
def liveTo (l : List OpV) (k : Nat) : List OpV := (l.take k).filter OpV.live
/-- In a valid cart each place has the operation of its device and number. -/
theorem cart_split {xs : List Int} {l : List OpV} (h : cartB xs l = true) : vecOk xs = true ∧ (∀ d, d < 4 → devB xs l d = true) ∧ stOf xs 4 = l.length := by
 unfold cartB at h
 simp only [Bool.and_eq_true, decide_eq_true_eq, List.all_eq_true] at h
 exact ⟨h.1, fun d hd => h.2.1 d (by simpa using hd), h.2.2⟩
theorem st_find {xs : List Int} {i : Nat} : ∀ d, i < stOf xs d → ∃ e k, e < d ∧ k < (xs.getD e 0).toNat ∧ i = stOf xs e + k
 | 0, h => by simp [stOf] at h
 | d + 1, h => by
  rcases Nat.lt_or_ge i (stOf xs d) with h1 | h1
  ·obtain ⟨e, k, he, hk, hi⟩ := st_find d h1
   exact ⟨e, k, by omega, hk, hi⟩
  ·rw [stOf] at h
   exact ⟨d, i - stOf xs d, by omega, by omega, by omega⟩
theorem cart_atV {xs : List Int} {l : List OpV} (h : cartB xs l = true) {i : Nat} (hi : i < l.length) :
  ∃ d k, d < 4 ∧ k < (xs.getD d 0).toNat ∧ i = stOf xs d + k ∧ (atOp l i).ok = true ∧ (atOp l i).dev = (d : Int) ∧ (atOp l i).seq = (k : Int) + 1 := by
 obtain ⟨_, hd, hs⟩ := cart_split h
 obtain ⟨d, k, h1, h2, rfl⟩ := st_find (xs := xs) 4 (by rw [hs]; exact hi)
 have hb := hd d h1
 unfold devB at hb
 simp only [Bool.and_eq_true, decide_eq_true_eq] at hb
 have hr := hb.2
 unfold runB at hr
 rw [List.all_eq_true] at hr
 have hf := hr k (by simpa using h2)
 unfold fitB at hf
 simp only [Bool.and_eq_true, decide_eq_true_eq] at hf
 exact ⟨d, k, h1, h2, rfl, hf.1, hf.2.1, hf.2.2.1⟩
/-- The model's last live operation of a device, among the first k. -/
def undoTo (dev : Int) (l : List OpV) : Nat → Int
 | 0 => 0
 | k + 1 => if (l.getD k OpV.zero).dev = dev ∧ (l.getD k OpV.zero).undos % 2 = 0 then (l.getD k OpV.zero).seq else undoTo dev l k
theorem undo_from (dev : Int) (l : List OpV) : ∀ k, undoTo dev l k = 0 ∨ ∃ i, i < k ∧ (atOp l i).dev = dev ∧ undoTo dev l k = (atOp l i).seq
 | 0 => .inl rfl
 | k + 1 => by
  rw [undoTo]
  split
  ·rename_i h
   exact .inr ⟨k, by omega, h.1, rfl⟩
  ·rcases undo_from dev l k with h | ⟨i, hi, h⟩
   ·exact .inl h
   ·exact .inr ⟨i, by omega, h⟩
theorem undo_le {xs : List Int} {l : List OpV} (hc : cartB xs l = true) (d : Nat) (k : Nat) (hk : k ≤ l.length) : 0 ≤ undoTo (d : Int) l k ∧ undoTo (d : Int) l k ≤ 40 := by
 rcases undo_from (d : Int) l k with h | ⟨i, hi, h1, h2⟩
 ·rw [h]; omega
 ·obtain ⟨e, m, he, hm, _, _, hdv, hsq⟩ := cart_atV hc (i := i) (by omega)
  have := (vec_at (cart_split hc).1 he).2.1
  rw [h2, hsq]
  omega
/-- A device's n-th operation is there just where its element of the vector says so. -/
theorem cart_hasV {xs : List Int} {l : List OpV} (hc : cartB xs l = true) {d : Nat} (hd : d < 4) {n : Int} (hn : 1 ≤ n) : n ≤ xs.getD d 0 ↔ ∃ i, i < l.length ∧ (atOp l i).dev = (d : Int) ∧ (atOp l i).seq = n := by
 obtain ⟨hv, hdv, hs⟩ := cart_split hc
 constructor
 ·intro h
  have hb := hdv d hd
  unfold devB at hb
  simp only [Bool.and_eq_true, decide_eq_true_eq] at hb
  have hx := vec_at hv hd
  have hi : stOf xs d + (n.toNat - 1) < l.length := by have := hb.1; rw [stOf] at this; omega
  refine ⟨stOf xs d + (n.toNat - 1), hi, ?_⟩
  have hr := hb.2
  unfold runB at hr
  rw [List.all_eq_true] at hr
  have hf := hr (n.toNat - 1) (by rw [List.mem_range]; omega)
  unfold fitB at hf
  simp only [Bool.and_eq_true, decide_eq_true_eq] at hf
  exact ⟨hf.2.1, by rw [hf.2.2.1]; omega⟩
 ·rintro ⟨i, hi, h1, h2⟩
  obtain ⟨e, m, he, hm, _, _, g1, g2⟩ := cart_atV hc hi
  obtain rfl : e = d := by have := g1.symm.trans h1; omega
  rw [← h2, g2]
  omega
set_option linter.unusedVariables false

/-- The greatest stamp of the first k operations. -/
def stampTo (l : List OpV) : Nat → Int
 | 0 => 0
 | k + 1 => max (stampTo l k) (atOp l k).stamp
theorem stampTo_pos (l : List OpV) : ∀ k, 0 ≤ stampTo l k
 | 0 => Int.le_refl _
 | k + 1 => by have := stampTo_pos l k; rw [stampTo]; omega
theorem stampTo_le {l : List OpV} {N : Int} (hN : 0 ≤ N) (h : ∀ i, i < l.length → (atOp l i).stamp ≤ N) : ∀ k, k ≤ l.length → stampTo l k ≤ N
 | 0, _ => hN
 | k + 1, hk => by
  have := stampTo_le hN h k (by omega)
  have := h k (by omega)
  rw [stampTo]
  omega
/-- How many operations stand ahead of the first of a later device. -/
def putAt (dev : Int) (l : List OpV) : Nat := (l.takeWhile fun x => decide (x.dev ≤ dev)).length
theorem putAt_le (dev : Int) (l : List OpV) : putAt dev l ≤ l.length := by unfold putAt; exact (List.takeWhile_sublist _).length_le
theorem putAt_at {dev : Int} : ∀ {l : List OpV} {i : Nat}, i < putAt dev l → (atOp l i).dev ≤ dev
 | [], i, h => absurd h (by simp [putAt])
 | x :: l, i, h => by
  by_cases hx : x.dev ≤ dev
  ·match i with
   | 0 => exact hx
   | j + 1 =>
    have : j < putAt dev l := by
     unfold putAt at h ⊢
     rw [List.takeWhile_cons, if_pos (by simpa using hx), List.length_cons] at h
     omega
    have h2 : (atOp l j).dev ≤ dev := putAt_at this
    exact h2
  ·unfold putAt at h
   rw [List.takeWhile_cons, if_neg (by simpa using hx)] at h
   simp at h
theorem putAt_end {dev : Int} : ∀ {l : List OpV}, putAt dev l < l.length → ¬ (atOp l (putAt dev l)).dev ≤ dev
 | [], h => absurd h (by simp)
 | x :: l, h => by
  by_cases hx : x.dev ≤ dev
  ·have e : putAt dev (x :: l) = putAt dev l + 1 := by
    unfold putAt
    rw [List.takeWhile_cons, if_pos (by simpa using hx), List.length_cons]
   rw [e] at h ⊢
   have h2 : ¬ (atOp l (putAt dev l)).dev ≤ dev := putAt_end (l := l) (by simpa using h)
   exact h2
  ·have e : putAt dev (x :: l) = 0 := by
    unfold putAt
    rw [List.takeWhile_cons, if_neg (by simpa using hx)]
    rfl
   rw [e]
   exact hx
/-- An operation as a device's next one. -/
def nextOp (xs : List Int) (l : List OpV) (d : Nat) (o : OpV) : OpV := { o with dev := (d : Int), seq := xs.getD d 0 + 1, stamp := stampTo l l.length + 1 }
def putV (xs : List Int) (d : Nat) : List Int := xs.set d (xs.getD d 0 + 1)
def putL (l : List OpV) (d : Nat) (o : OpV) : List OpV := l.take (putAt (d : Int) l) ++ [o] ++ l.drop (putAt (d : Int) l)
theorem putL_len (l : List OpV) (d : Nat) (o : OpV) : (putL l d o).length = l.length + 1 := by
 unfold putL
 have := putAt_le (d : Int) l
 simp
 omega
def onceMore (o : OpV) : OpV := { o with undos := o.undos + 1 }
def togU (l : List OpV) (i : Nat) : List OpV := l.set i (onceMore (atOp l i))
theorem togL_len (l : List OpV) (i : Nat) : (togU l i).length = l.length := by unfold togU; simp
theorem set_getD {α : Type} {l : List α} {i j : Nat} {x d : α} (hi : i < l.length) : (l.set i x).getD j d = if i = j then x else l.getD j d := by
 rw [List.getD_eq_getElem?_getD, List.getElem?_set]
 by_cases e : i = j
 ·rw [if_pos e, if_pos e, if_pos hi]; rfl
 ·rw [if_neg e, if_neg e, List.getD_eq_getElem?_getD]
set_option maxHeartbeats 20000000 in
theorem specCartOk (w : World) (B : Nat) (av ao : Option Addr) (nv cv no co : Nat) (xs : List Int) (l : List OpV) (hx : Ints w B av nv xs) (h : Ops w B ao no l) (hB : B ≤ w.heap.size) (hv : nv ≤ 1048576) (hn : no ≤ 1048576) (hm : ∀ i, i < no → (atOp l i).item.size ≤ 1048576) :
  Calls Tryz.prog 59 #[.agg #[.slice av nv cv, .slice ao no co]] w fun e w' => e = .returned (.bool (cartB xs l)) ∧ Below w.heap.size w w' := by
 have hb0 : Below w.heap.size w (w.alloc (.cells #[.slice av nv cv, .slice ao no co] 49)) := (Below.refl _ w).alloc (Nat.le_refl _) _
 have HV := Lib.hid (hx.below hb0 hB)
 have HO := Lib.hid (h.below hb0 hB)
 have HB := Lib.hid hb0
 have HX := Lib.hid (boxAt (Below.refl _ (w.alloc (.cells #[.slice av nv cv, .slice ao no co] 49))))
 have HL := Lib.hid h.1
 have HM := Lib.hid hm
 have hsz : w.heap.size < (w.alloc (.cells #[.slice av nv cv, .slice ao no co] 49)).heap.size := by show _ < (w.heap.push _).size; simp
 clear hx h hb0 hm
 rcases hvk : vecOk xs with _ | _
 ·have HF := Lib.hid (cart_vec (l := l) hvk)
  have HK := Lib.hid hvk
  clear hvk
  go_enter Tryz.func59, Tryz.ntmps59
  go_wp2_with fail
  refine (specVecOk _ B av nv cv xs HV.out hv).mono ?_
  rintro e w1 ⟨rfl, rfl⟩
  rw [HK.out]
  go_wp2
  go_ret
  exact ⟨by rw [HF.out]; rfl, HB.out⟩
 have HK := Lib.hid hvk
 have h4 : nv = 4 := HV.out.1.symm.trans (vec_at hvk (d := 0) (by omega)).2.2
 subst h4
 have HAt := Lib.hid (fun d (hd : d < 4) => vec_at hvk hd)
 have HCE := Lib.hid (cart_end (l := l) hvk)
 have HCD : Hid (∀ d, d < 4 → devB xs l d = false → cartB xs l = false) := fun d hd h => cart_dev hd h
 clear hvk
 go_enter Tryz.func59, Tryz.ntmps59
 go_wp2_with fail
 generalize w.alloc (.cells #[.slice av 4 cv, .slice ao no co] 49) = w0 at HV HO HB HX hsz ⊢
 refine (specVecOk _ B av 4 cv xs HV.out hv).mono ?_
 rintro e w1 ⟨rfl, rfl⟩
 rw [HK.out]
 go_wp2
 go_loopw [3, 4] (fun t i wr => ∃ (d at' : Nat), d ≤ 4 ∧ i = .int .i64 d ∧ t = .int .i64 at' ∧ at' ≤ no ∧ Hid (at' = stOf xs d ∧ ∀ d', d' < d → devB xs l d' = true) ∧ Hid (Below w0.heap.size w0 wr)) (fun _ i _ => 4 - (intOf i).toNat)
 case atStart => exact ⟨0, 0, by omega, rfl, rfl, Nat.zero_le _, ⟨rfl, fun d' hd' => by omega⟩, Below.refl _ _⟩
 case round =>
  obtain ⟨d, st, hd, rfl, rfl, hst, HR, HBr⟩ := hrel
  obtain ⟨c0, c1⟩ := pair_cells ((HBr.out.block _ (by omega)).trans HX.out)
  by_cases hlt : d < 4
  rotate_left
  ·obtain rfl : d = 4 := by omega
   have HF := Lib.hid (HCE.out HR.out.2)
   by_cases hz : st = no
   ·have hzb : ((st : Int) == (no : Int)) = true := by rw [hz]; exact beq_self_eq_true _
    have HT : Hid (decide (stOf xs 4 = l.length) = true) := decide_eq_true (by rw [← HR.out.1, HL.out]; exact hz)
    clear hz
    go_wp2
    go_ret
    exact ⟨by rw [HF.out, HT.out]; first | rfl | (simp [*]), HB.out.trans (HBr.out.mono HB.out.size)⟩
   ·have hzb : ((st : Int) == (no : Int)) = false := by rw [beq_eq_false_iff_ne]; omega
    have HT : Hid (decide (stOf xs 4 = l.length) = false) := decide_eq_false (by rw [← HR.out.1, HL.out]; exact hz)
    clear hz
    go_wp2
    go_ret
    exact ⟨by rw [HF.out, HT.out]; first | rfl | (simp [*]), HB.out.trans (HBr.out.mono HB.out.size)⟩
  obtain ⟨bv, ov, rfl, hbv, hcv⟩ := HV.out.2 d hlt
  obtain ⟨g1, g2, g3⟩ := HAt.out d hlt
  obtain ⟨c, hcx⟩ := Int.eq_ofNat_of_zero_le g1
  have HSt : Hid (stOf xs (d + 1) = st + c) := by show stOf xs (d + 1) = _; rw [stOf, hcx, ← HR.out.1]; rfl
  have HDv : Hid (devB xs l d = (decide (stOf xs (d + 1) ≤ l.length) && runB l d st c)) := by show devB xs l d = _; unfold devB; rw [hcx, ← HR.out.1]; rfl
  rw [hcx] at hcv g2
  clear hcx g1 g3 c0 c1
  have hc40 : c ≤ 40 := by omega
  clear g2
  have HCV := Lib.hid hcv
  have hd4 : decide ((d : Int) < 4) = true := decide_eq_true (by omega)
  clear hcv
  go_wp2
  go_loopw [3, 5, 6] (fun t s q wi => ∃ (i m : Nat), i ≤ c ∧ q = .int .i64 ((i : Int) + 1) ∧ t = .int .i64 (m : Int) ∧ s = .int .i64 (prevStamp l st i) ∧ m ≤ no ∧ Hid (m = st + i) ∧ Hid (runB l d st i = true) ∧ Hid (Below w0.heap.size w0 wi)) (fun _ _ q _ => c + 1 - (intOf q).toNat)
  case atStart => exact ⟨0, st, Nat.zero_le _, rfl, rfl, rfl, hst, rfl, rfl, HBr⟩
  case round =>
   obtain ⟨i, m, hi, rfl, rfl, rfl, hin, HMi, HRun, HBi⟩ := hrel
   obtain ⟨c0, c1⟩ := pair_cells ((HBi.out.block _ (by omega)).trans HX.out)
   have cv := (HBi.out.cell (p := ⟨bv, ov + d, none⟩) (by show bv < w0.heap.size; omega)).trans HCV.out
   by_cases hic : i < c
   rotate_left
   ·obtain rfl : i = c := by omega
    have hle : ¬ ((i : Int) + 1 ≤ (i : Int)) := by omega
    have HDt : Hid (∀ d', d' < d + 1 → devB xs l d' = true) := fun d' hd' => by
     rcases Nat.lt_or_ge d' d with h1 | h1
     ·exact HR.out.2 d' h1
     ·obtain rfl : d' = d := by omega
      rw [HDv.out, HRun.out, decide_eq_true (by rw [HSt.out, HL.out]; have := HMi.out; omega)]
      rfl
    go_wp2
    exact ⟨⟨d + 1, m, by omega, by go_num, rfl, hin, ⟨(by rw [HSt.out]; exact HMi.out), HDt.out⟩, HBi⟩, by simp [intOf]; omega⟩
   have hle : ((i : Int) + 1 ≤ (c : Int)) := by omega
   by_cases hmn : m = no
   ·have hb1 : ((m : Int) == (no : Int)) = true := by rw [hmn]; exact beq_self_eq_true _
    have HF := Lib.hid (HCD.out d hlt (by rw [HDv.out, decide_eq_false (by rw [HSt.out, HL.out]; have := HMi.out; omega)]; rfl))
    clear hmn
    go_wp2
    go_ret
    exact ⟨by rw [HF.out]; rfl, HB.out.trans (HBi.out.mono HB.out.size)⟩
   have hb1 : ((m : Int) == (no : Int)) = false := by rw [beq_eq_false_iff_ne]; omega
   have hmlt : m < no := by omega
   have hmi : (m : Int) < (no : Int) := by omega
   have hm0 : (0 : Int) ≤ (m : Int) := by omega
   clear hmn
   obtain ⟨b, off, rfl, hb, ho⟩ := HO.out.2 m hmlt
   have HO1 := Lib.hid ho
   have HIt := Lib.hid (HM.out m hmlt)
   have HA : Hid (l.getD m OpV.zero = atOp l (st + i)) := by show _ = _; rw [HMi.out]; rfl
   have HA2 : Hid (atOp l m = atOp l (st + i)) := by show _ = _; rw [HMi.out]
   rw [HA.out] at HO1
   rw [HA2.out] at HIt
   clear ho HA HA2
   have HPs := Lib.hid (prev_step l st i)
   have HY := Lib.hid (@fit_yes l d st i)
   have HZ : Hid (∀ b, fitB l d st i = b → b = false → cartB xs l = false) := fun b hb hb' => HCD.out d hlt (by rw [HDv.out, run_stop hic (hb.trans hb'), Bool.and_false])
   have H1 := Lib.hid (fun h => HZ.out _ (@fit_ok l d st i h) rfl)
   have H2 := Lib.hid (fun h => HZ.out _ (@fit_dev l d st i h) rfl)
   have H3 := Lib.hid (fun h => HZ.out _ (@fit_seq l d st i h) rfl)
   have H4 := Lib.hid (fun h => HZ.out _ (@fit_stamp l d st i h) rfl)
   have HN := Lib.hid (fun h => run_step (dev := d) HRun.out h)
   clear HZ
   generalize atOp l (st + i) = x at HPs HY H1 H2 H3 H4 HO1 HIt
   generalize prevStamp l st i = ps at HY H4 ⊢
   obtain ⟨d0, d1, d2, d3, d4, d5, d6, d7⟩ := HO1.out.kept (HBi.out.block b (by omega))
   go_wp2_with fail
   refine (specOpOk x.dev x.seq x.stamp x.kind x.item x.qty x.level x.undos _ HIt.out).mono ?_
   rintro e w2 ⟨rfl, hb2⟩
   have HB2 := Lib.hid (HBi.out.trans (hb2.mono HBi.out.size))
   clear hb2 c0 c1 cv d0 d1 d2 d3 d4 d5 d6 d7
   obtain ⟨c0, c1⟩ := pair_cells ((HB2.out.block _ (by omega)).trans HX.out)
   obtain ⟨d0, d1, d2, d3, d4, d5, d6, d7⟩ := HO1.out.kept (HB2.out.block b (by omega))
   rcases hok : opB x.dev x.seq x.stamp x.kind x.item x.qty x.level x.undos with _ | _
   ·have HF := Lib.hid (H1.out hok)
    clear hok
    go_wp2
    go_ret
    exact ⟨by rw [HF.out]; rfl, HB.out.trans (HB2.out.mono HB.out.size)⟩
   by_cases e1 : x.dev = (d : Int)
   rotate_left
   ·have HF := Lib.hid (H2.out e1)
    have b1 : (x.dev != (d : Int)) = true := by rw [bne_iff_ne]; exact e1
    clear hok e1
    go_wp2
    go_ret
    exact ⟨by rw [HF.out]; rfl, HB.out.trans (HB2.out.mono HB.out.size)⟩
   have b1 : (x.dev != (d : Int)) = false := by rw [e1]; exact bne_self_eq_false _
   by_cases e2 : x.seq = (i : Int) + 1
   rotate_left
   ·have HF := Lib.hid (H3.out e2)
    have b2 : (x.seq != (i : Int) + 1) = true := by rw [bne_iff_ne]; exact e2
    clear hok e1 e2
    go_wp2
    go_ret
    exact ⟨by rw [HF.out]; rfl, HB.out.trans (HB2.out.mono HB.out.size)⟩
   have b2 : (x.seq != (i : Int) + 1) = false := by rw [e2]; exact bne_self_eq_false _
   by_cases e3 : ps < x.stamp
   rotate_left
   ·have HF := Lib.hid (H4.out (by first | exact e3 | exact Int.not_lt.1 e3))
    have b3 : decide (x.stamp ≤ ps) = true := decide_eq_true (by omega)
    clear hok e1 e2 e3
    go_wp2
    go_ret
    exact ⟨by rw [HF.out]; rfl, HB.out.trans (HB2.out.mono HB.out.size)⟩
   have b3 : decide (x.stamp ≤ ps) = false := decide_eq_false (by omega)
   have HF := Lib.hid (HN.out (HY.out hok e1 e2 e3))
   clear hok e1 e2 e3
   go_wp2
   go_roundw
   case rel => exact ⟨i + 1, m + 1, by omega, by go_num, by go_num, by rw [HPs.out], by omega, (by have := HMi.out; show m + 1 = st + (i + 1); omega), HF, HB2⟩
   case measure => simp [intOf]; omega
def preV (a b : OpV) : Bool := preB a.stamp a.dev a.seq b.stamp b.dev b.seq
structure StV where
 level : Int
 counted : OpV
 placed : OpV
def StV.zero : StV := ⟨0, OpV.zero, OpV.zero⟩
def cntB (kind : Int) : Bool := decide (kind = 1 ∨ kind = 2)
def plcB (kind : Int) : Bool := decide (kind = 1 ∨ kind = 4 ∨ kind = 5)
/-- The model's level after the first k operations. -/
def levTo (item : ByteArray) (l : List OpV) : Nat → Int
 | 0 => 0
 | k + 1 => if (l.getD k OpV.zero).item = item ∧ (l.getD k OpV.zero).undos % 2 = 0 then max (levTo item l k) (l.getD k OpV.zero).level else levTo item l k
/-- The model's last operation of some kinds after the first k. -/
def bestTo (P : Int → Bool) (item : ByteArray) (l : List OpV) : Nat → OpV
 | 0 => OpV.zero
 | k + 1 => if (P (l.getD k OpV.zero).kind = true ∧ (l.getD k OpV.zero).item = item ∧ (l.getD k OpV.zero).undos % 2 = 0) ∧ ((bestTo P item l k).kind = 0 ∨ preV (bestTo P item l k) (l.getD k OpV.zero) = true) then l.getD k OpV.zero else bestTo P item l k
theorem op_bounds {o : OpV} (h : o.ok = true) : 1 ≤ o.seq ∧ o.seq ≤ 40 ∧ 1 ≤ o.stamp ∧ o.stamp ≤ 100000 ∧ o.item.size ≤ 8 ∧ 0 ≤ o.undos ∧ o.undos ≤ 50 ∧ 0 ≤ o.level ∧ o.level ≤ 100 := by
 have h' : opB o.dev o.seq o.stamp o.kind o.item o.qty o.level o.undos = true := h
 unfold opB headB tailB at h'
 simp only [Bool.and_eq_true] at h'
 obtain ⟨⟨_, hs, ht, hi, hu⟩, _, _, hl⟩ := h'
 unfold inB at hs ht hu
 have hs := of_decide_eq_true hs
 have ht := of_decide_eq_true ht
 have hu := of_decide_eq_true hu
 unfold itemB at hi
 rw [Bool.and_eq_true] at hi
 have hi := of_decide_eq_true hi.1
 have hlv : 0 ≤ o.level ∧ o.level ≤ 100 := by
  unfold lB at hl
  split at hl
  ·rw [Bool.and_eq_true] at hl
   have := of_decide_eq_true (show decide (1 ≤ o.level ∧ o.level ≤ 100) = true from hl.1)
   omega
  ·split at hl
   ·rw [Bool.and_eq_true] at hl
    have := of_decide_eq_true (show decide (2 ≤ o.level ∧ o.level ≤ 100) = true from hl.1)
    omega
   ·have := of_decide_eq_true hl
    omega
 exact ⟨hs.1, hs.2, ht.1, ht.2, hi.2, hu.1, hu.2, hlv.1, hlv.2⟩
theorem cart_op {xs : List Int} {l : List OpV} (h : cartB xs l = true) {i : Nat} (hi : i < l.length) : (atOp l i).ok = true := by
 obtain ⟨_, _, _, _, _, hok, _⟩ := cart_atV h hi
 exact hok
theorem cart_vecs {xs : List Int} {l : List OpV} (h : cartB xs l = true) : xs.length = 4 ∧ ∀ d, d < 4 → 0 ≤ xs.getD d 0 ∧ xs.getD d 0 ≤ 40 := by
 have hv : vecOk xs = true := by
  cases e : vecOk xs
  ·rw [cart_vec e] at h; cases h
  ·rfl
 unfold vecOk at hv
 rw [Bool.and_eq_true] at hv
 have hl := of_decide_eq_true hv.2
 refine ⟨hl, fun d hd => ?_⟩
 have hm : xs.getD d 0 ∈ xs := by rw [List.getD_eq_getElem?_getD, List.getElem?_eq_getElem (by omega)]; exact List.getElem_mem _
 have := List.all_eq_true.1 hv.1 _ hm
 exact inV_true this
theorem cart_length {xs : List Int} {l : List OpV} (h : cartB xs l = true) : l.length ≤ 160 := by
 have hv := (cart_vecs h).2
 unfold cartB at h
 rw [Bool.and_eq_true, Bool.and_eq_true] at h
 have hs := of_decide_eq_true h.2.2
 have h0 := hv 0 (by omega)
 have h1 := hv 1 (by omega)
 have h2 := hv 2 (by omega)
 have h3 := hv 3 (by omega)
 have : stOf xs 4 = (((0 + (xs.getD 0 0).toNat) + (xs.getD 1 0).toNat) + (xs.getD 2 0).toNat) + (xs.getD 3 0).toNat := rfl
 omega
theorem cart_level {xs : List Int} {l : List OpV} (h : cartB xs l = true) (item : ByteArray) : ∀ k, k ≤ l.length → levTo item l k ≤ 100
 | 0, _ => by show (0 : Int) ≤ 100; omega
 | k + 1, hk => by
  have ih := cart_level h item k (by omega)
  have hb := op_bounds (cart_op h (i := k) (by omega))
  have e : l.getD k OpV.zero = atOp l k := rfl
  rw [levTo, e]
  split
  ·omega
  ·exact ih
end Go.Proofs.YtgagchlcafdiaaaGreat
