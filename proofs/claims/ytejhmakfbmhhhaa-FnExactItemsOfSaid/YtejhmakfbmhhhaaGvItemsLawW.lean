/- The walk of the law FnExactItemsOf. -/
import Derived.Test.YtejhmakfbmhhhaaGv34
import Derived.Test.YtejhmakfbmhhhaaGv21
import Derived.Test.YtejhmakfbmhhhaaGv18
import Derived.Deep.Cut
import Derived.Deep.RegionHeld3
namespace Go.Proofs.Ytejhmakfbmhhhaa
open Go.RowKit

theorem items_all {l : List OpV} {c : Nat} (h : ∀ i, i < l.length → (l.getD i OpV.zero).item.size ≤ c) : ∀ o ∈ l, o.item.size ≤ c := fun o ho => by
  obtain ⟨i, hi, e⟩ := List.mem_iff_getElem.1 ho
  have := h i hi
  rw [List.getD_eq_getElem?_getD, List.getElem?_eq_getElem hi] at this
  rw [← e]
  exact this
theorem OwnStrs.besideV {w w' : World} {lo hi lo' hi' : Nat} {a : Option Addr} {n : Nat} {l : List ByteArray} (h : OwnStrs w lo hi a n l) (hb : Beside lo' hi' w w') (hd : hi ≤ lo' ∨ hi' ≤ lo) (hw : hi ≤ w.heap.size) : OwnStrs w' lo hi a n l :=
  h.kept fun j h1 h2 => hb.block j (by omega) (by omega)
theorem eqStrV (w : World) (B B' : Nat) (a a' : Option Addr) (n cap cap' : Nat) (l : List ByteArray) (h : Strs w B a n l) (h' : Strs w B' a' n l) (_hB : B ≤ w.heap.size) (_hB' : B' ≤ w.heap.size) (hn : n ≤ 1048576) :
    Calls Try.prog 49 #[.slice a n cap, .slice a' n cap'] w fun e w' => e = .returned (.bool true) ∧ Below w.heap.size w w' :=
  (eqStrs w B B' a a' n cap n cap' l l h h' hn hn).mono fun _ _ ⟨h1, _, h2⟩ => ⟨by rw [h1, decide_eq_true rfl], by rw [h2]; exact ⟨rfl, rfl, rfl, Nat.le_refl _, fun _ _ => rfl⟩⟩
def StrMarked (k n lo hi : Nat) (a : Option Addr) (w : World) (e : Ending) (w' : World) : Prop :=
  (∃ m : Nat, m = k + n ∧ e = .returned (.int .i64 (m : Int))) ∧ OwnStrs w' lo hi a n (strMarks k n) ∧ Beside lo hi w w'
theorem markStrV (w : World) (lo hi : Nat) (a : Option Addr) (n cap : Nat) (l : List ByteArray) (h : OwnStrs w lo hi a n l) (hh : hi ≤ w.heap.size) (k : Nat) (hk0 : 0 < k) (hk : k ≤ 20000000) (hn : n ≤ 1048576) :
    Calls Try.prog 50 #[.slice a n cap, .int .i64 (k : Int)] w (StrMarked k n lo hi a w) :=
  (markStrs w lo hi a n cap l h hh k hk0 hk hn).mono fun _ _ ⟨h1, h2, h3⟩ => ⟨h1, h2, ⟨h3.os, h3.tape, h3.output, h3.size, h3.block⟩⟩
theorem heldStrV (w : World) (B : Nat) (a : Option Addr) (n cap k : Nat) (h : Strs w B a n (strMarks k n)) (hB : B ≤ w.heap.size) (hk0 : 0 < k) (hk : k ≤ 4000000) (hn : n ≤ 1048576) :
    Calls Try.prog 51 #[.slice a n cap, .int .i64 (k : Int)] w fun e w' => e = .returned (.int .i64 ((k + n : Nat) : Int)) ∧ Below w.heap.size w w' :=
  heldStrs w B a n cap k h hB hk0 hk hn

set_option maxRecDepth 100000 in
set_option maxHeartbeats 8000000 in
theorem fnExactItemsOfWalk (av ao : Option Addr) (nv cv no co : Nat) (xs : List Int) (l : List OpV)  (w : World) (hx : Ints w w.heap.size av nv xs) (h : Ops w w.heap.size ao no l) (hv : nv ≤ maxLen) (hn : no ≤ maxLen) (hm : ∀ i, i < no → (l.getD i OpV.zero).item.size ≤ maxLen) : Calls Try.prog 9 #[.agg #[.slice av nv cv, .slice ao no co]] w fun e w' => e = .returned (.bool true) ∧ Below w.heap.size w w' := by
  have hb0 : Below w.heap.size w (w.alloc (.cells #[.slice av nv cv, .slice ao no co] 43)) := (Below.refl _ w).alloc (Nat.le_refl _) _
  have HV := Lib.hid (hx.below hb0 (Nat.le_refl _))
  have HO := Lib.hid (h.below hb0 (Nat.le_refl _))
  have HB := Lib.hid hb0
  have HX := Lib.hid (boxAt (Below.refl _ (w.alloc (.cells #[.slice av nv cv, .slice ao no co] 43))))
  have HLx := Lib.hid hx.1
  have HLo := Lib.hid h.1
  have HM := Lib.hid hm
  have hsz : w.heap.size < (w.alloc (.cells #[.slice av nv cv, .slice ao no co] 43)).heap.size := by show _ < (w.heap.push _).size; simp
  clear hx h hb0 hm
  go_enter Try.func9, Try.ntmps9
  go_wp2_with fail
  generalize w.alloc (.cells #[.slice av nv cv, .slice ao no co] 43) = w0 at HV HO HB HX hsz ⊢
  refine (szCart w0 w.heap.size av ao nv cv no co l HO.out (by omega) hv hn HM.out 1048576 (Nat.le_refl _)).mono ?_
  rintro e w1 ⟨rfl, hb1⟩
  have HX1 := Lib.hid ((hb1.block _ hsz).trans HX.out)
  have HV1 := Lib.hid (HV.out.below hb1 (by omega))
  have HO1 := Lib.hid (HO.out.below hb1 (by omega))
  have HB1 := Lib.hid (HB.out.trans (hb1.mono HB.out.size))
  have hs1 : w.heap.size < w1.heap.size := by have := hb1.size; omega
  clear hb1 HX HV HO HB hsz
  by_cases hbig : nv + opsTotal l ≤ 1048576
  rotate_left
  · rw [if_neg hbig]
    go_wp2
    go_ret
    exact ⟨rfl, HB1.out⟩
  rw [if_pos hbig]
  obtain ⟨hlo, hit⟩ := total_item (l := l) (t := 1048576) (by omega)
  have HIt := Lib.hid hit
  have hno : no ≤ 1048576 := by rw [← HLo.out]; exact hlo
  have hnv : nv ≤ 1048576 := by omega
  have hd : decide (((1048576 - (nv + opsTotal l) : Nat) : Int) < 0) = false := decide_eq_false (by omega)
  clear hit hbig
  have hxl : xs.length ≤ 1048576 := by rw [HLx.out]; exact hnv
  generalize 1048576 - (nv + opsTotal l) = lf at hd ⊢
  obtain ⟨Ls, hLs⟩ : ∃ L, itemsN xs l = L := ⟨_, rfl⟩
  have HLs := Lib.hid hLs
  have hLn : Ls.length ≤ 1048576 := by rw [← hLs]; exact (Nat.le_trans itemsN_len (by omega))
  clear hLs
  obtain ⟨c0, c1⟩ := pair_cells HX1.out
  go_wp2_with fail
  refine (toCart w1 w.heap.size av ao nv cv no co xs l HV1.out HO1.out (by omega) hnv hno).mono ?_
  rintro e w2 ⟨va, oa, rfl, hi, ho, hb⟩
  clear c0 c1
  have HI := Lib.hid hi
  have HOo := Lib.hid ho
  clear hi ho
  have HX2 := Lib.hid ((hb.block _ (Array.getElem?_eq_some_iff.1 HX1.out).1).trans HX1.out)
  have HV2 := Lib.hid (HV1.out.below hb (by omega))
  have HO2 := Lib.hid (HO1.out.below hb (by omega))
  have HB2 := Lib.hid (HB1.out.trans (hb.mono (by omega)))
  have hs2 := hb.size
  clear hb HX1 HV1 HO1 HB1
  go_wp2_with fail
  refine (specItems w2 w2.heap.size va oa _ _ _ _ xs l HI.out HOo.out (Nat.le_refl _) hxl hlo HIt.out).mono ?_
  rintro e w3 ⟨a0, k0, rfl, how, hb⟩
  rw [HLs.out] at how ⊢
  clear HI HOo
  have HX3 := Lib.hid ((hb.block _ (Array.getElem?_eq_some_iff.1 HX2.out).1).trans HX2.out)
  have HV3 := Lib.hid (HV2.out.below hb (by omega))
  have HO3 := Lib.hid (HO2.out.below hb (by omega))
  have HB3 := Lib.hid (HB2.out.trans (hb.mono (by omega)))
  have hs3 := hb.size
  clear hb HX2 HV2 HO2 HB2
  have HW3 := Lib.hid how
  clear how
  generalize w2.heap.size = n2 at HW3 hs2 hs3
  obtain ⟨c0, c1⟩ := pair_cells HX3.out
  go_wp2_with fail
  refine (toCartO w3 w.heap.size av ao nv cv no co xs l HV3.out HO3.out (by omega) hnv hno).mono ?_
  rintro e w4 ⟨ga, gb, mid, rfl, hgb, hm1, hm2, hi, ho, hb⟩
  clear c0 c1
  have HX4 := Lib.hid ((hb.block _ (Array.getElem?_eq_some_iff.1 HX3.out).1).trans HX3.out)
  have HV4 := Lib.hid (HV3.out.below hb (by omega))
  have HO4 := Lib.hid (HO3.out.below hb (by omega))
  have HB4 := Lib.hid (HB3.out.trans (hb.mono (by omega)))
  have hs4 := hb.size
  have HW4 := Lib.hid (HW3.out.below hb (by omega))
  clear hb HX3 HV3 HO3 HB3 HW3
  have HI4 := Lib.hid hi
  have HG4 := Lib.hid ho
  clear hi ho
  have h34 : w3.heap.size ≤ mid ∧ mid ≤ w4.heap.size := ⟨hm1, hm2⟩
  generalize hn3 : w3.heap.size = n3 at HW4 HI4 h34 hs3 hs4 hm1
  go_upto_region 7 with fail
  have hb : Below w4.heap.size w4 (w4.alloc (.cells #[.slice ga xs.length xs.length, .slice gb l.length l.length] 31)) := (Below.refl _ _).alloc (Nat.le_refl _) _
  have HY5 := Lib.hid (boxAt (Below.refl _ (w4.alloc (.cells #[.slice ga xs.length xs.length, .slice gb l.length l.length] 31))))
  have hy5 : w4.heap.size + 1 ≤ (w4.alloc (.cells #[.slice ga xs.length xs.length, .slice gb l.length l.length] 31)).heap.size := by show _ ≤ (w4.heap.push _).size; simp
  generalize w4.alloc (.cells #[.slice ga xs.length xs.length, .slice gb l.length l.length] 31) = w5 at hb HY5 hy5 ⊢
  have HX5 := Lib.hid ((hb.block _ (Array.getElem?_eq_some_iff.1 HX4.out).1).trans HX4.out)
  have HV5 := Lib.hid (HV4.out.below hb (by omega))
  have HO5 := Lib.hid (HO4.out.below hb (by omega))
  have HB5 := Lib.hid (HB4.out.trans (hb.mono (by omega)))
  have hs5 := hb.size
  have HW5 := Lib.hid (HW4.out.below hb (by omega))
  have HI5 := Lib.hid (HI4.out.below hb (by omega))
  have HG5 := Lib.hid (HG4.out.below hb (by omega))
  clear hb HX4 HV4 HO4 HB4 HW4 HI4 HG4
  generalize w4.heap.size = n4 at HY5 HI5 HG5 h34 hs4 hs5 hy5 hm2 ⊢
  obtain ⟨c0, c1⟩ := pair_cells HY5.out
  go_wp2_with fail
  refine (implItems w5 n4 ga gb _ _ _ _ xs l (HI5.out.ints.more hm2) HG5.out.ops (by omega) hxl (Nat.le_refl _) (fits (Nat.le_refl _) hlo) (items_all HIt.out)).mono ?_
  rintro e w6 ⟨a1, k1, rfl, how, hb⟩
  clear c0 c1
  rw [HLs.out] at how ⊢
  have HX6 := Lib.hid ((hb.block _ (Array.getElem?_eq_some_iff.1 HX5.out).1).trans HX5.out)
  have HV6 := Lib.hid (HV5.out.below hb (by omega))
  have HO6 := Lib.hid (HO5.out.below hb (by omega))
  have HB6 := Lib.hid (HB5.out.trans (hb.mono (by omega)))
  have hs6 := hb.size
  have HW6 := Lib.hid (HW5.out.below hb (by omega))
  have HI6 := Lib.hid (HI5.out.below hb (by omega))
  have HG6 := Lib.hid (HG5.out.below hb (by omega))
  have HY6 := Lib.hid ((hb.block _ (Array.getElem?_eq_some_iff.1 HY5.out).1).trans HY5.out)
  clear hb HX5 HV5 HO5 HB5 HW5 HI5 HG5 HY5
  have HU6 := Lib.hid how
  clear how
  generalize hn5 : w5.heap.size = n5 at HU6 hs5 hs6 hy5
  go_wp2_with fail
  refine (eqStrV w6 _ _ a1 a0 _ _ _ Ls HU6.out.strs HW6.out.strs (by omega) (by omega) hLn).mono ?_
  rintro e w7 ⟨rfl, hb⟩
  have HX7 := Lib.hid ((hb.block _ (Array.getElem?_eq_some_iff.1 HX6.out).1).trans HX6.out)
  have HV7 := Lib.hid (HV6.out.below hb (by omega))
  have HO7 := Lib.hid (HO6.out.below hb (by omega))
  have HB7 := Lib.hid (HB6.out.trans (hb.mono (by omega)))
  have hs7 := hb.size
  have HW7 := Lib.hid (HW6.out.below hb (by omega))
  have HI7 := Lib.hid (HI6.out.below hb (by omega))
  have HG7 := Lib.hid (HG6.out.below hb (by omega))
  have HY7 := Lib.hid ((hb.block _ (Array.getElem?_eq_some_iff.1 HY6.out).1).trans HY6.out)
  have HU7 := Lib.hid (HU6.out.below hb (by omega))
  clear hb HX6 HV6 HO6 HB6 HW6 HI6 HG6 HY6 HU6
  generalize hn6 : w6.heap.size = n6 at HU7 hs6 hs7
  go_upto_region 10 with fail
  have hS6 : w7.drew.cell? ⟨n4, 0, none⟩ = some (.slice ga xs.length xs.length) ∧ w7.drew.cell? ⟨n4, 1, none⟩ = some (.slice gb l.length l.length) ∧ w7.drew.cell? ⟨w.heap.size, 0, none⟩ = some (.slice av nv cv) ∧ w7.drew.cell? ⟨w.heap.size, 1, none⟩ = some (.slice ao no co) := ⟨(pair_cells HY7.out).1, (pair_cells HY7.out).2, (pair_cells HX7.out).1, (pair_cells HX7.out).2⟩
  have HTc := Lib.hid (toCart w7.drew w.heap.size av ao nv cv no co xs l (HV7.out.kept (w' := w7.drew) fun _ _ => rfl) (HO7.out.kept (w' := w7.drew) fun _ _ => rfl) (by show _ ≤ w7.heap.size; omega) hnv hno)
  have hn47 : n4 ≤ w7.heap.size := by omega
  have hmid7 : mid ≤ w7.heap.size := by omega
  go_region_held3 (fun w' => w'.cell? ⟨n4, 0, none⟩ = some (.slice ga xs.length xs.length) ∧ w'.cell? ⟨n4, 1, none⟩ = some (.slice gb l.length l.length) ∧ w'.cell? ⟨w.heap.size, 0, none⟩ = some (.slice av nv cv) ∧ w'.cell? ⟨w.heap.size, 1, none⟩ = some (.slice ao no co)) (first | with_reducible exact hS6 | with_reducible exact hS7 | with_reducible exact hS8)
    (first | (go_at_call 23; refine HTc.out.mono ?_; rintro e z7 ⟨ka, kb, rfl, hi7, ho7, hb7⟩; have hS7 : z7.cell? ⟨n4, 0, none⟩ = some (.slice ga xs.length xs.length) ∧ z7.cell? ⟨n4, 1, none⟩ = some (.slice gb l.length l.length) ∧ z7.cell? ⟨w.heap.size, 0, none⟩ = some (.slice av nv cv) ∧ z7.cell? ⟨w.heap.size, 1, none⟩ = some (.slice ao no co) := ⟨(hb7.cell (block_lt_of_cell hS6.1)).trans hS6.1, (hb7.cell (block_lt_of_cell hS6.2.1)).trans hS6.2.1, (hb7.cell (block_lt_of_cell hS6.2.2.1)).trans hS6.2.2.1, (hb7.cell (block_lt_of_cell hS6.2.2.2)).trans hS6.2.2.2⟩) | (go_at_call 25; refine (eqCartV z7 ga ka gb kb _ _ _ _ xs l ((HI7.out.ints.below (Below.mk hb7.os hb7.tape hb7.output hb7.size hb7.block : Below w7.heap.size w7 z7) (by omega)).more (Nat.le_trans hmid7 hb7.size)) hi7 ((HG7.out.ops.below (Below.mk hb7.os hb7.tape hb7.output hb7.size hb7.block : Below w7.heap.size w7 z7) (by omega)).more (Nat.le_trans hn47 hb7.size)) ho7 hxl hlo).mono ?_; rintro e w8 ⟨rfl, hb8⟩; have hS8 : w8.cell? ⟨n4, 0, none⟩ = some (.slice ga xs.length xs.length) ∧ w8.cell? ⟨n4, 1, none⟩ = some (.slice gb l.length l.length) ∧ w8.cell? ⟨w.heap.size, 0, none⟩ = some (.slice av nv cv) ∧ w8.cell? ⟨w.heap.size, 1, none⟩ = some (.slice ao no co) := ⟨(hb8.cell (block_lt_of_cell hS7.1)).trans hS7.1, (hb8.cell (block_lt_of_cell hS7.2.1)).trans hS7.2.1, (hb8.cell (block_lt_of_cell hS7.2.2.1)).trans hS7.2.2.1, (hb8.cell (block_lt_of_cell hS7.2.2.2)).trans hS7.2.2.2⟩))
  have hb78 : Below w7.heap.size w7 z7 := Below.mk hb7.os hb7.tape hb7.output hb7.size hb7.block
  have hb : Below w7.heap.size w7 w8 := hb78.trans (hb8.mono hb78.size)
  clear hS6 hS7 hS8 hb7 hb8 hb78 hi7 ho7 HTc
  have HX8 := Lib.hid ((hb.block _ (Array.getElem?_eq_some_iff.1 HX7.out).1).trans HX7.out)
  have HV8 := Lib.hid (HV7.out.below hb (by omega))
  have HO8 := Lib.hid (HO7.out.below hb (by omega))
  have HB8 := Lib.hid (HB7.out.trans (hb.mono (by omega)))
  have hs8 := hb.size
  have HW8 := Lib.hid (HW7.out.below hb (by omega))
  have HI8 := Lib.hid (HI7.out.below hb (by omega))
  have HG8 := Lib.hid (HG7.out.below hb (by omega))
  have HY8 := Lib.hid ((hb.block _ (Array.getElem?_eq_some_iff.1 HY7.out).1).trans HY7.out)
  have HU8 := Lib.hid (HU7.out.below hb (by omega))
  clear hb HX7 HV7 HO7 HB7 HW7 HI7 HG7 HY7 HU7
  obtain ⟨c0, c1⟩ := pair_cells HY8.out
  go_wp2_with fail
  refine (markCartO w8 n3 mid n4 ga gb _ _ _ _ xs l HI8.out HG8.out h34.1 h34.2 (by omega) hxl hlo 1 (by omega) (by omega)).mono ?_
  rintro e w9 ⟨⟨m, hm, rfl⟩, hb⟩
  clear c0 c1
  have HX9 := Lib.hid ((hb.block _ (by omega) (.inl (by omega))).trans HX8.out)
  have HV9 := Lib.hid (HV8.out.kept fun j hj => hb.block j (by omega) (.inl (by omega)))
  have HO9 := Lib.hid (HO8.out.kept fun j hj => hb.block j (by omega) (.inl (by omega)))
  have HB9 := Lib.hid (HB8.out.trans (hb.below (by omega) (by omega)))
  have hs9 := hb.size
  have HW9 := Lib.hid (HW8.out.besideV hb (by omega) (by omega))
  have HY9 := Lib.hid ((hb.block _ (Array.getElem?_eq_some_iff.1 HY8.out).1 (by omega)).trans HY8.out)
  have HU9 := Lib.hid (HU8.out.besideV hb (by omega) (by omega))
  clear hb HX8 HV8 HO8 HB8 HW8 HI8 HG8 HY8 HU8
  have hdm : decide ((m : Int) < 0) = false := decide_eq_false (by omega)
  go_wp2_with fail
  refine (eqStrV w9 _ _ a1 a0 _ _ _ Ls HU9.out.strs HW9.out.strs (by omega) (by omega) hLn).mono ?_
  rintro e w10 ⟨rfl, hb⟩
  have HX10 := Lib.hid ((hb.block _ (Array.getElem?_eq_some_iff.1 HX9.out).1).trans HX9.out)
  have HV10 := Lib.hid (HV9.out.below hb (by omega))
  have HO10 := Lib.hid (HO9.out.below hb (by omega))
  have HB10 := Lib.hid (HB9.out.trans (hb.mono (by omega)))
  have hs10 := hb.size
  have HW10 := Lib.hid (HW9.out.below hb (by omega))
  have HY10 := Lib.hid ((hb.block _ (Array.getElem?_eq_some_iff.1 HY9.out).1).trans HY9.out)
  have HU10 := Lib.hid (HU9.out.below hb (by omega))
  clear hb HX9 HV9 HO9 HB9 HW9 HY9 HU9
  go_wp2_with fail
  refine (markStrV w10 n5 n6 a1 _ _ Ls HU10.out (by omega) 1 (by omega) (by omega) hLn).mono ?_
  rintro e w11 ⟨⟨m1, hm1e, rfl⟩, how, hb⟩
  have HX11 := Lib.hid ((hb.block _ (by omega) (.inl (by omega))).trans HX10.out)
  have HV11 := Lib.hid (HV10.out.kept fun j hj => hb.block j (by omega) (.inl (by omega)))
  have HO11 := Lib.hid (HO10.out.kept fun j hj => hb.block j (by omega) (.inl (by omega)))
  have HB11 := Lib.hid (HB10.out.trans (hb.below (by omega) (by omega)))
  have hs11 := hb.size
  have HW11 := Lib.hid (HW10.out.besideV hb (by omega) (by omega))
  have HY11 := Lib.hid ((hb.block _ (Array.getElem?_eq_some_iff.1 HY10.out).1 (by omega)).trans HY10.out)
  clear hb HX10 HV10 HO10 HB10 HW10 HY10 HU10
  have HU11 := Lib.hid how
  clear how
  have HM1 : Hid (1 + Ls.length = m1) := hm1e.symm
  have hm1b : m1 ≤ 10000000 := by omega
  clear hm1e
  go_wp2_with fail
  refine (heldStrV w11 n6 a1 _ _ 1 HU11.out.strs (by omega) (by omega) (by omega) hLn).mono ?_
  rintro e w12 ⟨rfl, hb⟩
  rw [HM1.out]
  have HX12 := Lib.hid ((hb.block _ (Array.getElem?_eq_some_iff.1 HX11.out).1).trans HX11.out)
  have HV12 := Lib.hid (HV11.out.below hb (by omega))
  have HO12 := Lib.hid (HO11.out.below hb (by omega))
  have HB12 := Lib.hid (HB11.out.trans (hb.mono (by omega)))
  have hs12 := hb.size
  have HW12 := Lib.hid (HW11.out.below hb (by omega))
  have HY12 := Lib.hid ((hb.block _ (Array.getElem?_eq_some_iff.1 HY11.out).1).trans HY11.out)
  have HU12 := Lib.hid (HU11.out.below hb (by omega))
  clear hb HX11 HV11 HO11 HB11 HW11 HY11 HU11
  have hdm1 : decide ((m1 : Int) < 0) = false := decide_eq_false (by omega)
  have hbm : ((m1 : Int) != (m1 : Int)) = false := bne_self_eq_false _
  obtain ⟨c0, c1⟩ := pair_cells HX12.out
  go_wp2_with fail
  refine (toCartO w12 w.heap.size av ao nv cv no co xs l HV12.out HO12.out (by omega) hnv hno).mono ?_
  rintro e w13 ⟨va2, oa2, mid2, rfl, hgb2, hm12, hm22, hi, ho, hb⟩
  clear c0 c1
  have HX13 := Lib.hid ((hb.block _ (Array.getElem?_eq_some_iff.1 HX12.out).1).trans HX12.out)
  have HV13 := Lib.hid (HV12.out.below hb (by omega))
  have HO13 := Lib.hid (HO12.out.below hb (by omega))
  have HB13 := Lib.hid (HB12.out.trans (hb.mono (by omega)))
  have hs13 := hb.size
  have HW13 := Lib.hid (HW12.out.below hb (by omega))
  have HY13 := Lib.hid ((hb.block _ (Array.getElem?_eq_some_iff.1 HY12.out).1).trans HY12.out)
  have HU13 := Lib.hid (HU12.out.below hb (by omega))
  clear hb HX12 HV12 HO12 HB12 HW12 HY12 HU12
  have HI13 := Lib.hid hi
  have HG13 := Lib.hid ho
  clear hi ho
  go_wp2_with fail
  refine (implItems w13 w13.heap.size va2 oa2 _ _ _ _ xs l (HI13.out.ints.more hm22) HG13.out.ops (by omega) hxl (Nat.le_refl _) (fits (Nat.le_refl _) hlo) (items_all HIt.out)).mono ?_
  rintro e w14 ⟨a2, k2, rfl, how, hb⟩
  clear HI13 HG13
  rw [HLs.out] at how ⊢
  have HX14 := Lib.hid ((hb.block _ (Array.getElem?_eq_some_iff.1 HX13.out).1).trans HX13.out)
  have HV14 := Lib.hid (HV13.out.below hb (by omega))
  have HO14 := Lib.hid (HO13.out.below hb (by omega))
  have HB14 := Lib.hid (HB13.out.trans (hb.mono (by omega)))
  have hs14 := hb.size
  have HW14 := Lib.hid (HW13.out.below hb (by omega))
  have HY14 := Lib.hid ((hb.block _ (Array.getElem?_eq_some_iff.1 HY13.out).1).trans HY13.out)
  have HU14 := Lib.hid (HU13.out.below hb (by omega))
  clear hb HX13 HV13 HO13 HB13 HW13 HY13 HU13
  have HZ14 := Lib.hid how
  clear how
  go_wp2_with fail
  refine (eqStrV w14 _ _ a2 a0 _ _ _ Ls HZ14.out.strs HW14.out.strs (by omega) (by omega) hLn).mono ?_
  rintro e w15 ⟨rfl, hb⟩
  clear HZ14
  have HX15 := Lib.hid ((hb.block _ (Array.getElem?_eq_some_iff.1 HX14.out).1).trans HX14.out)
  have HV15 := Lib.hid (HV14.out.below hb (by omega))
  have HO15 := Lib.hid (HO14.out.below hb (by omega))
  have HB15 := Lib.hid (HB14.out.trans (hb.mono (by omega)))
  have hs15 := hb.size
  have HW15 := Lib.hid (HW14.out.below hb (by omega))
  have HY15 := Lib.hid ((hb.block _ (Array.getElem?_eq_some_iff.1 HY14.out).1).trans HY14.out)
  have HU15 := Lib.hid (HU14.out.below hb (by omega))
  clear hb HX14 HV14 HO14 HB14 HW14 HY14 HU14
  go_wp2_with fail
  refine (heldStrV w15 n6 a1 _ _ 1 HU15.out.strs (by omega) (by omega) (by omega) hLn).mono ?_
  rintro e w16 ⟨rfl, hb⟩
  rw [HM1.out]
  have HX16 := Lib.hid ((hb.block _ (Array.getElem?_eq_some_iff.1 HX15.out).1).trans HX15.out)
  have HV16 := Lib.hid (HV15.out.below hb (by omega))
  have HO16 := Lib.hid (HO15.out.below hb (by omega))
  have HB16 := Lib.hid (HB15.out.trans (hb.mono (by omega)))
  have hs16 := hb.size
  have HW16 := Lib.hid (HW15.out.below hb (by omega))
  have HY16 := Lib.hid ((hb.block _ (Array.getElem?_eq_some_iff.1 HY15.out).1).trans HY15.out)
  have HU16 := Lib.hid (HU15.out.below hb (by omega))
  clear hb HX15 HV15 HO15 HB15 HW15 HY15 HU15
  go_wp2
  go_ret
  exact ⟨rfl, HB16.out⟩
end Go.Proofs.Ytejhmakfbmhhhaa
