/- The walk of the law FnViews. -/
import Derived.Test.YtejhmakfbmhhhaaGreatGw46
import Derived.Test.YtejhmakfbmhhhaaGreatGw47
import Derived.Test.YtejhmakfbmhhhaaGreatGw43
import Derived.Test.YtejhmakfbmhhhaaGreatGw25
import Derived.Deep.Cut
namespace Go.Proofs.YtejhmakfbmhhhaaGreat
open Go.RowKit
set_option linter.unusedVariables false
set_option linter.unusedSimpArgs false

set_option maxRecDepth 100000 in
set_option maxHeartbeats 16000000 in
theorem fnViewsWalk (a : Option Addr) (len cap : Nat) (zs : List Int) (w : World) (h : IsRow .u8 w a len cap zs) :
    Calls Tryz.prog 5 #[.slice a len cap] w fun e w' => e = .returned (.bool true) ∧ Below w.heap.size w w' := by
  by_cases hbig : len ≤ 1048576
  rotate_left
  · go_enter Tryz.func5, Tryz.ntmps5
    go_wp2_with fail
    refine (bigYes a len cap hbig w).mono ?_
    rintro e w' ⟨rfl, rfl⟩
    go_wp2
    go_ret
    exact ⟨rfl, Below.refl _ _⟩
  have hsrc := Lib.hid (src_of_row h hbig)
  clear h
  go_enter Tryz.func5, Tryz.ntmps5
  go_wp2_with fail
  refine (bigNo a len cap hbig w).mono ?_
  rintro e w' ⟨rfl, rfl⟩
  go_wp2_with fail
  refine (drawLinesOf w w.heap.size a len cap (Nat.le_refl _) hsrc.out).mono ?_
  rintro e w0 ⟨⟨ava, avc, aoa, ano, aoc⟩, rfl, hx, hb0⟩
  obtain ⟨xs, l, e1, a1, a2, a3, a4, a5, a6⟩ := hx
  have e1 : ano = l.length := e1
  subst e1
  have HVA0 := Lib.hid a1.ints
  have HOA0 := Lib.hid a2.ops
  have HB0 := Lib.hid hb0
  have HCv := Lib.hid a3
  have HCa := Lib.hid a4
  have HIa : Hid (∀ i, i < l.length → (atOp l i).item.size ≤ 1048576) := fun i hi => Nat.le_trans (a5 i hi) (by omega)
  have hs0 := hb0.size
  clear a1 a2 a3 a4 a5 hb0
  dsimp only
  go_upto_region 4 with fail
  have hb : Below w0.heap.size w0 (w0.alloc (.cells #[.slice ava 4 avc, .slice aoa l.length aoc] 27)) := (Below.refl _ _).alloc (Nat.le_refl _) _
  have HXa1 := Lib.hid (boxAt (Below.refl _ (w0.alloc (.cells #[.slice ava 4 avc, .slice aoa l.length aoc] 27))))
  generalize w0.alloc (.cells #[.slice ava 4 avc, .slice aoa l.length aoc] 27) = w1 at hb HXa1 ⊢
  have hs1 := hb.size
  have HVA1 := Lib.hid (HVA0.out.below hb (by omega))
  have HOA1 := Lib.hid (HOA0.out.below hb (by omega))
  have HB1 := Lib.hid (HB0.out.trans (hb.mono (by omega)))
  clear hb HVA0 HOA0 HB0
  have hit : ∀ o ∈ l, o.item.size ≤ 1048576 := fun o ho => by
    obtain ⟨i, hi, e⟩ := List.mem_iff_getElem.1 ho
    have := HIa.out i hi
    unfold atOp at this
    rw [List.getD_eq_getElem?_getD, List.getElem?_eq_getElem hi] at this
    rw [← e]
    exact this
  have hll : (itemsN xs l).length ≤ 160 := itemsN_len
  have hln : (linesN xs l).length = (itemsN xs l).length := by unfold linesN; rw [List.length_map]
  have hat := fun (q : Nat) (hq : q < (linesN xs l).length) => lines_at xs l hq
  have hsh := fun (x : ByteArray) (hx : x ∈ itemsN xs l) => shown hx
  have hac := items_asc xs l
  have hsz : ∀ x, x ∈ itemsN xs l → x.size ≤ 1048576 := fun x hx => by
    obtain ⟨_, i, hi, e⟩ := itemsN_mem hx
    rw [← e]
    exact HIa.out i hi
  obtain ⟨N, hN⟩ : ∃ x, itemsN xs l = x := ⟨_, rfl⟩
  obtain ⟨LL, hLL⟩ : ∃ x, linesN xs l = x := ⟨_, rfl⟩
  rw [hN] at hll hln hsh hac hsz
  rw [hLL] at hln hat
  simp only [hN] at hat
  have HN := Lib.hid hN
  have HLL := Lib.hid hLL
  have Hln := Lib.hid hln
  have hlll : LL.length ≤ 160 := by omega
  have Hat := Lib.hid hat
  have Hsh := Lib.hid hsh
  have Hac := Lib.hid hac
  have Hsz := Lib.hid hsz
  clear hN hLL hat hsh hac hsz hln
  obtain ⟨c00, c01⟩ := pair_cells HXa1.out
  go_wp2_with fail
  have hc := implLines w1 w1.heap.size ava aoa 4 avc l.length aoc xs l (HVA1.out.more (by omega)) (HOA1.out.more (by omega)) (Nat.le_refl _) (by omega) HCa.out.1 ⟨by omega, HCa.out.2.1⟩ hit
  unfold LnPost at hc
  rw [HLL.out] at hc
  refine hc.mono ?_
  clear hc
  rintro e w2 ⟨la, lc, rfl, hls, hb⟩
  clear c00 c01
  have hs2 := hb.size
  have HVA2 := Lib.hid (HVA1.out.below hb (by omega))
  have HOA2 := Lib.hid (HOA1.out.below hb (by omega))
  have HB2 := Lib.hid (HB1.out.trans (hb.mono (by omega)))
  have HXa2 := Lib.hid ((hb.block _ (lt_of_row HXa1.out)).trans HXa1.out)
  clear hb HVA1 HOA1 HB1 HXa1
  have HL2 := Lib.hid hls.rows
  clear hls
  go_wp2_with fail
  refine (drawLevelOf w2 w.heap.size a len cap (by have := HB2.out.size; omega) (hsrc.out.kept HB2.out.block)).mono ?_
  rintro e w3 ⟨⟨xva, xvc, xoa, xno, xoc⟩, t1, ht1, rfl, hx, hb⟩
  obtain ⟨x1, l1, e2, b1, b2, b3, b4, b5, b6⟩ := hx
  have e2 : xno = l1.length := e2
  subst e2
  have hlenX : l1.length ≤ 400 := b6
  dsimp only
  have HL3 := Lib.hid (HL2.out.below hb (by omega))
  have hs3 := hb.size
  have HVA3 := Lib.hid (HVA2.out.below hb (by omega))
  have HOA3 := Lib.hid (HOA2.out.below hb (by omega))
  have HB3 := Lib.hid (HB2.out.trans (hb.mono (by omega)))
  have HXa3 := Lib.hid ((hb.block _ (lt_of_row HXa2.out)).trans HXa2.out)
  clear hb HVA2 HOA2 HB2 HXa2
  clear HL2
  have HVX3 := Lib.hid b1.ints
  have HOX3 := Lib.hid b2.ops
  have HCX := Lib.hid b4
  have HIX : Hid (∀ i, i < l1.length → (atOp l1 i).item.size ≤ 1048576) := fun i hi => Nat.le_trans (b5 i hi) (by omega)
  clear b1 b2 b3 b4 b5 b6
  go_upto_region 6 with fail
  have hb : Below w3.heap.size w3 (w3.alloc (.cells #[.slice xva 4 xvc, .slice xoa l1.length xoc] 27)) := (Below.refl _ _).alloc (Nat.le_refl _) _
  have HXx4 := Lib.hid (boxAt (Below.refl _ (w3.alloc (.cells #[.slice xva 4 xvc, .slice xoa l1.length xoc] 27))))
  generalize w3.alloc (.cells #[.slice xva 4 xvc, .slice xoa l1.length xoc] 27) = w4 at hb HXx4 ⊢
  have HL4 := Lib.hid (HL3.out.below hb (by omega))
  have hs4 := hb.size
  have HVA4 := Lib.hid (HVA3.out.below hb (by omega))
  have HOA4 := Lib.hid (HOA3.out.below hb (by omega))
  have HB4 := Lib.hid (HB3.out.trans (hb.mono (by omega)))
  have HXa4 := Lib.hid ((hb.block _ (lt_of_row HXa3.out)).trans HXa3.out)
  have HVX4 := Lib.hid (HVX3.out.below hb (by omega))
  have HOX4 := Lib.hid (HOX3.out.below hb (by omega))
  clear hb HVA3 HOA3 HB3 HXa3 HVX3 HOX3
  clear HL3
  go_wp2_with fail
  refine (drawQtyOf w4 w.heap.size a len cap (by have := HB4.out.size; omega) (hsrc.out.kept HB4.out.block)).mono ?_
  rintro e w5 ⟨⟨yva, yvc, yoa, yno, yoc⟩, t2, ht2, rfl, hx, hb⟩
  obtain ⟨x2, l2, e2, b1, b2, b3, b4, b5, b6⟩ := hx
  have e2 : yno = l2.length := e2
  subst e2
  have hlenY : l2.length ≤ 400 := b6
  dsimp only
  have HL5 := Lib.hid (HL4.out.below hb (by omega))
  have hs5 := hb.size
  have HVA5 := Lib.hid (HVA4.out.below hb (by omega))
  have HOA5 := Lib.hid (HOA4.out.below hb (by omega))
  have HB5 := Lib.hid (HB4.out.trans (hb.mono (by omega)))
  have HXa5 := Lib.hid ((hb.block _ (lt_of_row HXa4.out)).trans HXa4.out)
  have HVX5 := Lib.hid (HVX4.out.below hb (by omega))
  have HOX5 := Lib.hid (HOX4.out.below hb (by omega))
  have HXx5 := Lib.hid ((hb.block _ (lt_of_row HXx4.out)).trans HXx4.out)
  clear hb HVA4 HOA4 HB4 HXa4 HVX4 HOX4 HXx4
  clear HL4
  have HVY5 := Lib.hid b1.ints
  have HOY5 := Lib.hid b2.ops
  have HCY := Lib.hid b4
  have HIY : Hid (∀ i, i < l2.length → (atOp l2 i).item.size ≤ 1048576) := fun i hi => Nat.le_trans (b5 i hi) (by omega)
  clear b1 b2 b3 b4 b5 b6
  go_upto_region 7 with fail
  have hb : Below w5.heap.size w5 (w5.alloc (.cells #[.slice yva 4 yvc, .slice yoa l2.length yoc] 27)) := (Below.refl _ _).alloc (Nat.le_refl _) _
  have HXy6 := Lib.hid (boxAt (Below.refl _ (w5.alloc (.cells #[.slice yva 4 yvc, .slice yoa l2.length yoc] 27))))
  generalize w5.alloc (.cells #[.slice yva 4 yvc, .slice yoa l2.length yoc] 27) = w6 at hb HXy6 ⊢
  have HL6 := Lib.hid (HL5.out.below hb (by omega))
  have hs6 := hb.size
  have HVA6 := Lib.hid (HVA5.out.below hb (by omega))
  have HOA6 := Lib.hid (HOA5.out.below hb (by omega))
  have HB6 := Lib.hid (HB5.out.trans (hb.mono (by omega)))
  have HXa6 := Lib.hid ((hb.block _ (lt_of_row HXa5.out)).trans HXa5.out)
  have HVX6 := Lib.hid (HVX5.out.below hb (by omega))
  have HOX6 := Lib.hid (HOX5.out.below hb (by omega))
  have HXx6 := Lib.hid ((hb.block _ (lt_of_row HXx5.out)).trans HXx5.out)
  have HVY6 := Lib.hid (HVY5.out.below hb (by omega))
  have HOY6 := Lib.hid (HOY5.out.below hb (by omega))
  clear hb HVA5 HOA5 HB5 HXa5 HVX5 HOX5 HXx5 HVY5 HOY5
  clear HL5
  go_wp2_with fail
  refine (drawSavedOf w6 w.heap.size a len cap (by have := HB6.out.size; omega) (hsrc.out.kept HB6.out.block)).mono ?_
  rintro e w7 ⟨⟨zva, zvc, zoa, zno, zoc⟩, t3, ht3, rfl, hx, hb⟩
  obtain ⟨x3, l3, e2, b1, b2, b3, b4, b5, b6⟩ := hx
  have e2 : zno = l3.length := e2
  subst e2
  have hlenZ : l3.length ≤ 400 := b6
  dsimp only
  have HL7 := Lib.hid (HL6.out.below hb (by omega))
  have hs7 := hb.size
  have HVA7 := Lib.hid (HVA6.out.below hb (by omega))
  have HOA7 := Lib.hid (HOA6.out.below hb (by omega))
  have HB7 := Lib.hid (HB6.out.trans (hb.mono (by omega)))
  have HXa7 := Lib.hid ((hb.block _ (lt_of_row HXa6.out)).trans HXa6.out)
  have HVX7 := Lib.hid (HVX6.out.below hb (by omega))
  have HOX7 := Lib.hid (HOX6.out.below hb (by omega))
  have HXx7 := Lib.hid ((hb.block _ (lt_of_row HXx6.out)).trans HXx6.out)
  have HVY7 := Lib.hid (HVY6.out.below hb (by omega))
  have HOY7 := Lib.hid (HOY6.out.below hb (by omega))
  have HXy7 := Lib.hid ((hb.block _ (lt_of_row HXy6.out)).trans HXy6.out)
  clear hb HVA6 HOA6 HB6 HXa6 HVX6 HOX6 HXx6 HVY6 HOY6 HXy6
  clear HL6
  have HVZ7 := Lib.hid b1.ints
  have HOZ7 := Lib.hid b2.ops
  have HCZ := Lib.hid b4
  have HIZ : Hid (∀ i, i < l3.length → (atOp l3 i).item.size ≤ 1048576) := fun i hi => Nat.le_trans (b5 i hi) (by omega)
  clear b1 b2 b3 b4 b5 b6
  go_upto_region 8 with fail
  have hb : Below w7.heap.size w7 (w7.alloc (.cells #[.slice zva 4 zvc, .slice zoa l3.length zoc] 27)) := (Below.refl _ _).alloc (Nat.le_refl _) _
  have HXz8 := Lib.hid (boxAt (Below.refl _ (w7.alloc (.cells #[.slice zva 4 zvc, .slice zoa l3.length zoc] 27))))
  generalize w7.alloc (.cells #[.slice zva 4 zvc, .slice zoa l3.length zoc] 27) = w8 at hb HXz8 ⊢
  have HL8 := Lib.hid (HL7.out.below hb (by omega))
  have hs8 := hb.size
  have HVA8 := Lib.hid (HVA7.out.below hb (by omega))
  have HOA8 := Lib.hid (HOA7.out.below hb (by omega))
  have HB8 := Lib.hid (HB7.out.trans (hb.mono (by omega)))
  have HXa8 := Lib.hid ((hb.block _ (lt_of_row HXa7.out)).trans HXa7.out)
  have HVX8 := Lib.hid (HVX7.out.below hb (by omega))
  have HOX8 := Lib.hid (HOX7.out.below hb (by omega))
  have HXx8 := Lib.hid ((hb.block _ (lt_of_row HXx7.out)).trans HXx7.out)
  have HVY8 := Lib.hid (HVY7.out.below hb (by omega))
  have HOY8 := Lib.hid (HOY7.out.below hb (by omega))
  have HXy8 := Lib.hid ((hb.block _ (lt_of_row HXy7.out)).trans HXy7.out)
  have HVZ8 := Lib.hid (HVZ7.out.below hb (by omega))
  have HOZ8 := Lib.hid (HOZ7.out.below hb (by omega))
  clear hb HVA7 HOA7 HB7 HXa7 HVX7 HOX7 HXx7 HVY7 HOY7 HXy7 HVZ7 HOZ7
  clear HL7
  go_wp2_with fail
  refine (drawItemsOf w8 w.heap.size a len cap (by have := HB8.out.size; omega) (hsrc.out.kept HB8.out.block)).mono ?_
  rintro e w9 ⟨⟨uva, uvc, uoa, uno, uoc⟩, rfl, hx, hb⟩
  obtain ⟨x4, l4, e2, b1, b2, b3, b4, b5, b6⟩ := hx
  have e2 : uno = l4.length := e2
  subst e2
  have hlenU : l4.length ≤ 400 := b6
  dsimp only
  have HL9 := Lib.hid (HL8.out.below hb (by omega))
  have hs9 := hb.size
  have HVA9 := Lib.hid (HVA8.out.below hb (by omega))
  have HOA9 := Lib.hid (HOA8.out.below hb (by omega))
  have HB9 := Lib.hid (HB8.out.trans (hb.mono (by omega)))
  have HXa9 := Lib.hid ((hb.block _ (lt_of_row HXa8.out)).trans HXa8.out)
  have HVX9 := Lib.hid (HVX8.out.below hb (by omega))
  have HOX9 := Lib.hid (HOX8.out.below hb (by omega))
  have HXx9 := Lib.hid ((hb.block _ (lt_of_row HXx8.out)).trans HXx8.out)
  have HVY9 := Lib.hid (HVY8.out.below hb (by omega))
  have HOY9 := Lib.hid (HOY8.out.below hb (by omega))
  have HXy9 := Lib.hid ((hb.block _ (lt_of_row HXy8.out)).trans HXy8.out)
  have HVZ9 := Lib.hid (HVZ8.out.below hb (by omega))
  have HOZ9 := Lib.hid (HOZ8.out.below hb (by omega))
  have HXz9 := Lib.hid ((hb.block _ (lt_of_row HXz8.out)).trans HXz8.out)
  clear hb HVA8 HOA8 HB8 HXa8 HVX8 HOX8 HXx8 HVY8 HOY8 HXy8 HVZ8 HOZ8 HXz8
  clear HL8
  have HVU9 := Lib.hid b1.ints
  have HOU9 := Lib.hid b2.ops
  have HCU := Lib.hid b4
  have HIU : Hid (∀ i, i < l4.length → (atOp l4 i).item.size ≤ 1048576) := fun i hi => Nat.le_trans (b5 i hi) (by omega)
  clear b1 b2 b3 b4 b5 b6
  go_upto_region 9 with fail
  have hb : Below w9.heap.size w9 (w9.alloc (.cells #[.slice uva 4 uvc, .slice uoa l4.length uoc] 27)) := (Below.refl _ _).alloc (Nat.le_refl _) _
  have HXu10 := Lib.hid (boxAt (Below.refl _ (w9.alloc (.cells #[.slice uva 4 uvc, .slice uoa l4.length uoc] 27))))
  generalize w9.alloc (.cells #[.slice uva 4 uvc, .slice uoa l4.length uoc] 27) = w10 at hb HXu10 ⊢
  have HL10 := Lib.hid (HL9.out.below hb (by omega))
  have hs10 := hb.size
  have HVA10 := Lib.hid (HVA9.out.below hb (by omega))
  have HOA10 := Lib.hid (HOA9.out.below hb (by omega))
  have HB10 := Lib.hid (HB9.out.trans (hb.mono (by omega)))
  have HXa10 := Lib.hid ((hb.block _ (lt_of_row HXa9.out)).trans HXa9.out)
  have HVX10 := Lib.hid (HVX9.out.below hb (by omega))
  have HOX10 := Lib.hid (HOX9.out.below hb (by omega))
  have HXx10 := Lib.hid ((hb.block _ (lt_of_row HXx9.out)).trans HXx9.out)
  have HVY10 := Lib.hid (HVY9.out.below hb (by omega))
  have HOY10 := Lib.hid (HOY9.out.below hb (by omega))
  have HXy10 := Lib.hid ((hb.block _ (lt_of_row HXy9.out)).trans HXy9.out)
  have HVZ10 := Lib.hid (HVZ9.out.below hb (by omega))
  have HOZ10 := Lib.hid (HOZ9.out.below hb (by omega))
  have HXz10 := Lib.hid ((hb.block _ (lt_of_row HXz9.out)).trans HXz9.out)
  have HVU10 := Lib.hid (HVU9.out.below hb (by omega))
  have HOU10 := Lib.hid (HOU9.out.below hb (by omega))
  clear hb HVA9 HOA9 HB9 HXa9 HVX9 HOX9 HXx9 HVY9 HOY9 HXy9 HVZ9 HOZ9 HXz9 HVU9 HOU9
  clear HL9
  have hit4 : ∀ o ∈ l4, o.item.size ≤ 1048576 := fun o ho => by
    obtain ⟨i, hi, e⟩ := List.mem_iff_getElem.1 ho
    have := HIU.out i hi
    unfold atOp at this
    rw [List.getD_eq_getElem?_getD, List.getElem?_eq_getElem hi] at this
    rw [← e]
    exact this
  obtain ⟨n1, hn1⟩ : ∃ z, levelN x1 l1 t1 = z := ⟨_, rfl⟩
  obtain ⟨n2, hn2⟩ : ∃ z, qtyN x2 l2 t2 = z := ⟨_, rfl⟩
  obtain ⟨n3, hn3⟩ : ∃ z, savedN x3 l3 t3 = z := ⟨_, rfl⟩
  have hl4 : (itemsN x4 l4).length ≤ 160 := itemsN_len
  obtain ⟨M, hM⟩ : ∃ z, itemsN x4 l4 = z := ⟨_, rfl⟩
  rw [hM] at hl4
  have HE1 := Lib.hid hn1
  have HE2 := Lib.hid hn2
  have HE3 := Lib.hid hn3
  have HM := Lib.hid hM
  clear hn1 hn2 hn3 hM
  have hn1 : (n1 != n1) = false := bne_self_eq_false _
  have hn2 : (n2 != n2) = false := bne_self_eq_false _
  have hn3 : (n3 != n3) = false := bne_self_eq_false _
  have ht2' : t2.size ≤ 1048576 := by omega
  have ht3' : t3.size ≤ 1048576 := by omega
  go_wp2_with fail
  obtain ⟨w11, hzw⟩ : ∃ z, w10.drew = z := ⟨_, rfl⟩
  have hb : Below w10.heap.size w10 w11 := by rw [← hzw]; exact ⟨rfl, rfl, rfl, Nat.le_refl _, fun _ _ => rfl⟩
  have HL11 := Lib.hid (HL10.out.below hb (by omega))
  have hs11 := hb.size
  have HVA11 := Lib.hid (HVA10.out.below hb (by omega))
  have HOA11 := Lib.hid (HOA10.out.below hb (by omega))
  have HB11 := Lib.hid (HB10.out.trans (hb.mono (by omega)))
  have HXa11 := Lib.hid ((hb.block _ (lt_of_row HXa10.out)).trans HXa10.out)
  have HVX11 := Lib.hid (HVX10.out.below hb (by omega))
  have HOX11 := Lib.hid (HOX10.out.below hb (by omega))
  have HXx11 := Lib.hid ((hb.block _ (lt_of_row HXx10.out)).trans HXx10.out)
  have HVY11 := Lib.hid (HVY10.out.below hb (by omega))
  have HOY11 := Lib.hid (HOY10.out.below hb (by omega))
  have HXy11 := Lib.hid ((hb.block _ (lt_of_row HXy10.out)).trans HXy10.out)
  have HVZ11 := Lib.hid (HVZ10.out.below hb (by omega))
  have HOZ11 := Lib.hid (HOZ10.out.below hb (by omega))
  have HXz11 := Lib.hid ((hb.block _ (lt_of_row HXz10.out)).trans HXz10.out)
  have HVU11 := Lib.hid (HVU10.out.below hb (by omega))
  have HOU11 := Lib.hid (HOU10.out.below hb (by omega))
  have HXu11 := Lib.hid ((hb.block _ (lt_of_row HXu10.out)).trans HXu10.out)
  clear hb HVA10 HOA10 HB10 HXa10 HVX10 HOX10 HXx10 HVY10 HOY10 HXy10 HVZ10 HOZ10 HXz10 HVU10 HOU10 HXu10
  clear HL10
  have hS : w11.cell? ⟨w0.heap.size, 0, none⟩ = some (.slice ava 4 avc) ∧ w11.cell? ⟨w0.heap.size, 1, none⟩ = some (.slice aoa l.length aoc) ∧ w11.cell? ⟨w3.heap.size, 0, none⟩ = some (.slice xva 4 xvc) ∧ w11.cell? ⟨w3.heap.size, 1, none⟩ = some (.slice xoa l1.length xoc) ∧ w11.cell? ⟨w5.heap.size, 0, none⟩ = some (.slice yva 4 yvc) ∧ w11.cell? ⟨w5.heap.size, 1, none⟩ = some (.slice yoa l2.length yoc) ∧ w11.cell? ⟨w7.heap.size, 0, none⟩ = some (.slice zva 4 zvc) ∧ w11.cell? ⟨w7.heap.size, 1, none⟩ = some (.slice zoa l3.length zoc) ∧ w11.cell? ⟨w9.heap.size, 0, none⟩ = some (.slice uva 4 uvc) ∧ w11.cell? ⟨w9.heap.size, 1, none⟩ = some (.slice uoa l4.length uoc) := ⟨(pair_cells HXa11.out).1, (pair_cells HXa11.out).2, (pair_cells HXx11.out).1, (pair_cells HXx11.out).2, (pair_cells HXy11.out).1, (pair_cells HXy11.out).2, (pair_cells HXz11.out).1, (pair_cells HXz11.out).2, (pair_cells HXu11.out).1, (pair_cells HXu11.out).2⟩
  refine wp_region_held_drew (S := fun w' => w'.cell? ⟨w0.heap.size, 0, none⟩ = some (.slice ava 4 avc) ∧ w'.cell? ⟨w0.heap.size, 1, none⟩ = some (.slice aoa l.length aoc) ∧ w'.cell? ⟨w3.heap.size, 0, none⟩ = some (.slice xva 4 xvc) ∧ w'.cell? ⟨w3.heap.size, 1, none⟩ = some (.slice xoa l1.length xoc) ∧ w'.cell? ⟨w5.heap.size, 0, none⟩ = some (.slice yva 4 yvc) ∧ w'.cell? ⟨w5.heap.size, 1, none⟩ = some (.slice yoa l2.length yoc) ∧ w'.cell? ⟨w7.heap.size, 0, none⟩ = some (.slice zva 4 zvc) ∧ w'.cell? ⟨w7.heap.size, 1, none⟩ = some (.slice zoa l3.length zoc) ∧ w'.cell? ⟨w9.heap.size, 0, none⟩ = some (.slice uva 4 uvc) ∧ w'.cell? ⟨w9.heap.size, 1, none⟩ = some (.slice uoa l4.length uoc)) (by kernel_rfl) (by rw [hzw]; exact hS) (fun hHeld => ?_)
  rw [hzw]
  clear hHeld hzw
  refine wpAnyH_take (i := 0) (oi := { dst := some 37, op := .move (.tmp 4), type := 30, pos := "laws.go:336", after := #[], guard := none }) (v := ?_) rfl (by kernel_rfl) (by kernel_rfl) (by kernel_rfl) (fun _ _ _ h => h) (Or.inl ⟨by rfl, ?_⟩) (by assumption) ?_
  rotate_left
  · intro w hSw
    (try dsimp only at hSw)
    first | (go_simp; done) | (go_simp; with_reducible rfl)
  (try simp only [Act.put, List.setIfInBounds_toArray, List.set_cons_zero, List.set_cons_succ])
  refine wpAnyH_take (i := 1) (oi := { dst := some 38, op := .load 27 (.tmp 3), type := 27, pos := "laws.go:336", after := #[], guard := none }) (v := ?_) rfl (by kernel_rfl) (by kernel_rfl) (by kernel_rfl) (fun _ _ _ h => h) (Or.inl ⟨by rfl, ?_⟩) (by assumption) ?_
  rotate_left
  · intro w hSw
    (try dsimp only at hSw)
    first | (go_simp; done) | (go_simp; with_reducible rfl)
  (try simp only [Act.put, List.setIfInBounds_toArray, List.set_cons_zero, List.set_cons_succ])
  refine wpAnyH_ready (rs := [2]) (by kernel_rfl) (by simp) ?_
  refine AllReadyH.cons (o := { dst := some 39, op := .call { callee := .value (.func 25), args := #[.tmp 38], argTypes := #[27] }, type := 30, pos := "laws.go:336", after := #[⟨1, .data⟩], guard := none }) rfl (fun K hK => ?_) AllReadyH.nil
  go_simp
  go_at_call 25
  refine (specLines w11 w11.heap.size ava aoa 4 avc l.length aoc xs l  (HVA11.out.more (by omega)) (HOA11.out.more (by omega)) (Nat.le_refl _) (by omega) (by omega) HIa.out).mono ?_
  rintro e w12 ⟨qa, qc, hre, hls, hb⟩
  rw [HLL.out] at hre hls
  subst hre
  have HL12 := Lib.hid (HL11.out.below hb (by omega))
  have hs12 := hb.size
  have HVA12 := Lib.hid (HVA11.out.below hb (by omega))
  have HOA12 := Lib.hid (HOA11.out.below hb (by omega))
  have HB12 := Lib.hid (HB11.out.trans (hb.mono (by omega)))
  have HXa12 := Lib.hid ((hb.block _ (lt_of_row HXa11.out)).trans HXa11.out)
  have HVX12 := Lib.hid (HVX11.out.below hb (by omega))
  have HOX12 := Lib.hid (HOX11.out.below hb (by omega))
  have HXx12 := Lib.hid ((hb.block _ (lt_of_row HXx11.out)).trans HXx11.out)
  have HVY12 := Lib.hid (HVY11.out.below hb (by omega))
  have HOY12 := Lib.hid (HOY11.out.below hb (by omega))
  have HXy12 := Lib.hid ((hb.block _ (lt_of_row HXy11.out)).trans HXy11.out)
  have HVZ12 := Lib.hid (HVZ11.out.below hb (by omega))
  have HOZ12 := Lib.hid (HOZ11.out.below hb (by omega))
  have HXz12 := Lib.hid ((hb.block _ (lt_of_row HXz11.out)).trans HXz11.out)
  have HVU12 := Lib.hid (HVU11.out.below hb (by omega))
  have HOU12 := Lib.hid (HOU11.out.below hb (by omega))
  have HXu12 := Lib.hid ((hb.block _ (lt_of_row HXu11.out)).trans HXu11.out)
  clear hb HVA11 HOA11 HB11 HXa11 HVX11 HOX11 HXx11 HVY11 HOY11 HXy11 HVZ11 HOZ11 HXz11 HVU11 HOU11 HXu11
  clear HL11
  have hS2 : w12.cell? ⟨w0.heap.size, 0, none⟩ = some (.slice ava 4 avc) ∧ w12.cell? ⟨w0.heap.size, 1, none⟩ = some (.slice aoa l.length aoc) ∧ w12.cell? ⟨w3.heap.size, 0, none⟩ = some (.slice xva 4 xvc) ∧ w12.cell? ⟨w3.heap.size, 1, none⟩ = some (.slice xoa l1.length xoc) ∧ w12.cell? ⟨w5.heap.size, 0, none⟩ = some (.slice yva 4 yvc) ∧ w12.cell? ⟨w5.heap.size, 1, none⟩ = some (.slice yoa l2.length yoc) ∧ w12.cell? ⟨w7.heap.size, 0, none⟩ = some (.slice zva 4 zvc) ∧ w12.cell? ⟨w7.heap.size, 1, none⟩ = some (.slice zoa l3.length zoc) ∧ w12.cell? ⟨w9.heap.size, 0, none⟩ = some (.slice uva 4 uvc) ∧ w12.cell? ⟨w9.heap.size, 1, none⟩ = some (.slice uoa l4.length uoc) := ⟨(pair_cells HXa12.out).1, (pair_cells HXa12.out).2, (pair_cells HXx12.out).1, (pair_cells HXx12.out).2, (pair_cells HXy12.out).1, (pair_cells HXy12.out).2, (pair_cells HXz12.out).1, (pair_cells HXz12.out).2, (pair_cells HXu12.out).1, (pair_cells HXu12.out).2⟩
  refine hK.out _ _ hS2 (fun hHeld3 => ?_)
  clear hK K
  (try simp only [Act.put, List.setIfInBounds_toArray, List.set_cons_zero, List.set_cons_succ])
  clear hHeld3
  have HQ12 := Lib.hid hls.rows
  clear hls
  refine wpAnyH_ready (rs := [3]) (by kernel_rfl) (by simp) ?_
  refine AllReadyH.cons (o := { dst := some 40, op := .call { callee := .value (.func 24), args := #[.tmp 37, .tmp 39], argTypes := #[30, 30] }, type := 4, pos := "laws.go:336", after := #[⟨0, .data⟩, ⟨2, .data⟩, ⟨2, .chain⟩], guard := none }) rfl (fun K hK => ?_) AllReadyH.nil
  go_simp
  go_at_call 24
  refine (sameLinesE w12 w12.heap.size w12.heap.size la qa LL.length lc qc LL (HL12.out.more (by omega)) (HQ12.out.more (by omega)) (Nat.le_refl _) (Nat.le_refl _) (by omega)).mono ?_
  rintro e w13 ⟨rfl, hb⟩
  have HL13 := Lib.hid (HL12.out.below hb (by omega))
  have HQ13 := Lib.hid (HQ12.out.below hb (by omega))
  have hs13 := hb.size
  have HVA13 := Lib.hid (HVA12.out.below hb (by omega))
  have HOA13 := Lib.hid (HOA12.out.below hb (by omega))
  have HB13 := Lib.hid (HB12.out.trans (hb.mono (by omega)))
  have HXa13 := Lib.hid ((hb.block _ (lt_of_row HXa12.out)).trans HXa12.out)
  have HVX13 := Lib.hid (HVX12.out.below hb (by omega))
  have HOX13 := Lib.hid (HOX12.out.below hb (by omega))
  have HXx13 := Lib.hid ((hb.block _ (lt_of_row HXx12.out)).trans HXx12.out)
  have HVY13 := Lib.hid (HVY12.out.below hb (by omega))
  have HOY13 := Lib.hid (HOY12.out.below hb (by omega))
  have HXy13 := Lib.hid ((hb.block _ (lt_of_row HXy12.out)).trans HXy12.out)
  have HVZ13 := Lib.hid (HVZ12.out.below hb (by omega))
  have HOZ13 := Lib.hid (HOZ12.out.below hb (by omega))
  have HXz13 := Lib.hid ((hb.block _ (lt_of_row HXz12.out)).trans HXz12.out)
  have HVU13 := Lib.hid (HVU12.out.below hb (by omega))
  have HOU13 := Lib.hid (HOU12.out.below hb (by omega))
  have HXu13 := Lib.hid ((hb.block _ (lt_of_row HXu12.out)).trans HXu12.out)
  clear hb HVA12 HOA12 HB12 HXa12 HVX12 HOX12 HXx12 HVY12 HOY12 HXy12 HVZ12 HOZ12 HXz12 HVU12 HOU12 HXu12
  clear HL12 HQ12
  have hS4 : w13.cell? ⟨w0.heap.size, 0, none⟩ = some (.slice ava 4 avc) ∧ w13.cell? ⟨w0.heap.size, 1, none⟩ = some (.slice aoa l.length aoc) ∧ w13.cell? ⟨w3.heap.size, 0, none⟩ = some (.slice xva 4 xvc) ∧ w13.cell? ⟨w3.heap.size, 1, none⟩ = some (.slice xoa l1.length xoc) ∧ w13.cell? ⟨w5.heap.size, 0, none⟩ = some (.slice yva 4 yvc) ∧ w13.cell? ⟨w5.heap.size, 1, none⟩ = some (.slice yoa l2.length yoc) ∧ w13.cell? ⟨w7.heap.size, 0, none⟩ = some (.slice zva 4 zvc) ∧ w13.cell? ⟨w7.heap.size, 1, none⟩ = some (.slice zoa l3.length zoc) ∧ w13.cell? ⟨w9.heap.size, 0, none⟩ = some (.slice uva 4 uvc) ∧ w13.cell? ⟨w9.heap.size, 1, none⟩ = some (.slice uoa l4.length uoc) := ⟨(pair_cells HXa13.out).1, (pair_cells HXa13.out).2, (pair_cells HXx13.out).1, (pair_cells HXx13.out).2, (pair_cells HXy13.out).1, (pair_cells HXy13.out).2, (pair_cells HXz13.out).1, (pair_cells HXz13.out).2, (pair_cells HXu13.out).1, (pair_cells HXu13.out).2⟩
  refine hK.out _ _ hS4 (fun hHeld5 => ?_)
  clear hK K
  (try simp only [Act.put, List.setIfInBounds_toArray, List.set_cons_zero, List.set_cons_succ])
  clear hHeld5
  clear HQ13
  refine wpAnyH_take (i := 4) (oi := { dst := some 41, op := .unOp .not 4 (.tmp 40), type := 4, pos := "laws.go:336", after := #[⟨3, .data⟩], guard := none }) (v := ?_) rfl (by kernel_rfl) (by kernel_rfl) (by kernel_rfl) (fun _ _ _ h => h) (Or.inl ⟨by rfl, ?_⟩) (by assumption) ?_
  rotate_left
  · intro w hSw
    (try dsimp only at hSw)
    first | (go_simp; done) | (go_simp; with_reducible rfl)
  (try simp only [Act.put, List.setIfInBounds_toArray, List.set_cons_zero, List.set_cons_succ])
  refine wpAnyH_take (i := 5) (oi := { dst := some 42, op := .move (.tmp 41), type := 4, pos := "laws.go:336", after := #[⟨4, .data⟩, ⟨3, .chain⟩], guard := none }) (v := ?_) rfl (by kernel_rfl) (by kernel_rfl) (by kernel_rfl) (fun _ _ _ h => h) (Or.inl ⟨by rfl, ?_⟩) (by assumption) ?_
  rotate_left
  · intro w hSw
    (try dsimp only at hSw)
    first | (go_simp; done) | (go_simp; with_reducible rfl)
  (try simp only [Act.put, List.setIfInBounds_toArray, List.set_cons_zero, List.set_cons_succ])
  refine wpAnyH_take (i := 6) (oi := { dst := some 43, op := .load 27 (.tmp 5), type := 27, pos := "laws.go:336", after := #[⟨5, .guard⟩], guard := some (5, false) }) (v := ?_) rfl (by kernel_rfl) (by kernel_rfl) (by kernel_rfl) (fun _ _ _ h => h) (Or.inl ⟨by rfl, ?_⟩) (by assumption) ?_
  rotate_left
  · intro w hSw
    (try dsimp only at hSw)
    first | (go_simp; done) | (go_simp; with_reducible rfl)
  (try simp only [Act.put, List.setIfInBounds_toArray, List.set_cons_zero, List.set_cons_succ])
  refine wpAnyH_take (i := 7) (oi := { dst := some 44, op := .move (.tmp 6), type := 9, pos := "laws.go:336", after := #[⟨5, .guard⟩], guard := some (5, false) }) (v := ?_) rfl (by kernel_rfl) (by kernel_rfl) (by kernel_rfl) (fun _ _ _ h => h) (Or.inl ⟨by rfl, ?_⟩) (by assumption) ?_
  rotate_left
  · intro w hSw
    (try dsimp only at hSw)
    first | (go_simp; done) | (go_simp; with_reducible rfl)
  (try simp only [Act.put, List.setIfInBounds_toArray, List.set_cons_zero, List.set_cons_succ])
  refine wpAnyH_take (i := 9) (oi := { dst := some 46, op := .load 27 (.tmp 5), type := 27, pos := "laws.go:336", after := #[⟨5, .guard⟩], guard := some (5, false) }) (v := ?_) rfl (by kernel_rfl) (by kernel_rfl) (by kernel_rfl) (fun _ _ _ h => h) (Or.inl ⟨by rfl, ?_⟩) (by assumption) ?_
  rotate_left
  · intro w hSw
    (try dsimp only at hSw)
    first | (go_simp; done) | (go_simp; with_reducible rfl)
  (try simp only [Act.put, List.setIfInBounds_toArray, List.set_cons_zero, List.set_cons_succ])
  refine wpAnyH_take (i := 10) (oi := { dst := some 47, op := .move (.tmp 6), type := 9, pos := "laws.go:336", after := #[⟨5, .guard⟩], guard := some (5, false) }) (v := ?_) rfl (by kernel_rfl) (by kernel_rfl) (by kernel_rfl) (fun _ _ _ h => h) (Or.inl ⟨by rfl, ?_⟩) (by assumption) ?_
  rotate_left
  · intro w hSw
    (try dsimp only at hSw)
    first | (go_simp; done) | (go_simp; with_reducible rfl)
  (try simp only [Act.put, List.setIfInBounds_toArray, List.set_cons_zero, List.set_cons_succ])
  refine wpAnyH_ready (rs := [8]) (by kernel_rfl) (by simp) ?_
  refine AllReadyH.cons (o := { dst := some 45, op := .call { callee := .value (.func 17), args := #[.tmp 43, .tmp 44], argTypes := #[27, 9] }, type := 2, pos := "laws.go:336", after := #[⟨6, .data⟩, ⟨7, .data⟩, ⟨5, .chain⟩, ⟨5, .guard⟩], guard := some (5, false) }) rfl (fun K hK => ?_) AllReadyH.nil
  go_simp
  go_at_call 17
  refine (implLevel w13 w13.heap.size xva xoa 4 xvc l1.length xoc x1 l1 t1 (HVX13.out.more (by omega)) (HOX13.out.more (by omega)) (Nat.le_refl _) (by omega) HCX.out.1 ⟨by omega, HCX.out.2.1⟩).mono ?_
  rintro e w14 ⟨rfl, hb⟩
  rw [HE1.out]
  have HL14 := Lib.hid (HL13.out.below hb (by omega))
  have hs14 := hb.size
  have HVA14 := Lib.hid (HVA13.out.below hb (by omega))
  have HOA14 := Lib.hid (HOA13.out.below hb (by omega))
  have HB14 := Lib.hid (HB13.out.trans (hb.mono (by omega)))
  have HXa14 := Lib.hid ((hb.block _ (lt_of_row HXa13.out)).trans HXa13.out)
  have HVX14 := Lib.hid (HVX13.out.below hb (by omega))
  have HOX14 := Lib.hid (HOX13.out.below hb (by omega))
  have HXx14 := Lib.hid ((hb.block _ (lt_of_row HXx13.out)).trans HXx13.out)
  have HVY14 := Lib.hid (HVY13.out.below hb (by omega))
  have HOY14 := Lib.hid (HOY13.out.below hb (by omega))
  have HXy14 := Lib.hid ((hb.block _ (lt_of_row HXy13.out)).trans HXy13.out)
  have HVZ14 := Lib.hid (HVZ13.out.below hb (by omega))
  have HOZ14 := Lib.hid (HOZ13.out.below hb (by omega))
  have HXz14 := Lib.hid ((hb.block _ (lt_of_row HXz13.out)).trans HXz13.out)
  have HVU14 := Lib.hid (HVU13.out.below hb (by omega))
  have HOU14 := Lib.hid (HOU13.out.below hb (by omega))
  have HXu14 := Lib.hid ((hb.block _ (lt_of_row HXu13.out)).trans HXu13.out)
  clear hb HVA13 HOA13 HB13 HXa13 HVX13 HOX13 HXx13 HVY13 HOY13 HXy13 HVZ13 HOZ13 HXz13 HVU13 HOU13 HXu13
  clear HL13
  have hS6 : w14.cell? ⟨w0.heap.size, 0, none⟩ = some (.slice ava 4 avc) ∧ w14.cell? ⟨w0.heap.size, 1, none⟩ = some (.slice aoa l.length aoc) ∧ w14.cell? ⟨w3.heap.size, 0, none⟩ = some (.slice xva 4 xvc) ∧ w14.cell? ⟨w3.heap.size, 1, none⟩ = some (.slice xoa l1.length xoc) ∧ w14.cell? ⟨w5.heap.size, 0, none⟩ = some (.slice yva 4 yvc) ∧ w14.cell? ⟨w5.heap.size, 1, none⟩ = some (.slice yoa l2.length yoc) ∧ w14.cell? ⟨w7.heap.size, 0, none⟩ = some (.slice zva 4 zvc) ∧ w14.cell? ⟨w7.heap.size, 1, none⟩ = some (.slice zoa l3.length zoc) ∧ w14.cell? ⟨w9.heap.size, 0, none⟩ = some (.slice uva 4 uvc) ∧ w14.cell? ⟨w9.heap.size, 1, none⟩ = some (.slice uoa l4.length uoc) := ⟨(pair_cells HXa14.out).1, (pair_cells HXa14.out).2, (pair_cells HXx14.out).1, (pair_cells HXx14.out).2, (pair_cells HXy14.out).1, (pair_cells HXy14.out).2, (pair_cells HXz14.out).1, (pair_cells HXz14.out).2, (pair_cells HXu14.out).1, (pair_cells HXu14.out).2⟩
  refine hK.out _ _ hS6 (fun hHeld7 => ?_)
  clear hK K
  (try simp only [Act.put, List.setIfInBounds_toArray, List.set_cons_zero, List.set_cons_succ])
  clear hHeld7
  refine wpAnyH_ready (rs := [11]) (by kernel_rfl) (by simp) ?_
  refine AllReadyH.cons (o := { dst := some 48, op := .call { callee := .value (.func 26), args := #[.tmp 46, .tmp 47], argTypes := #[27, 9] }, type := 2, pos := "laws.go:336", after := #[⟨9, .data⟩, ⟨10, .data⟩, ⟨8, .chain⟩, ⟨5, .guard⟩], guard := some (5, false) }) rfl (fun K hK => ?_) AllReadyH.nil
  go_simp
  go_at_call 26
  refine (specLevel w14 w14.heap.size xva xoa 4 xvc l1.length xoc x1 l1 t1 (HVX14.out.more (by omega)) (HOX14.out.more (by omega)) (Nat.le_refl _) (by omega) (by omega) HIX.out).mono ?_
  rintro e w15 ⟨rfl, hb⟩
  rw [HE1.out]
  have HL15 := Lib.hid (HL14.out.below hb (by omega))
  have hs15 := hb.size
  have HVA15 := Lib.hid (HVA14.out.below hb (by omega))
  have HOA15 := Lib.hid (HOA14.out.below hb (by omega))
  have HB15 := Lib.hid (HB14.out.trans (hb.mono (by omega)))
  have HXa15 := Lib.hid ((hb.block _ (lt_of_row HXa14.out)).trans HXa14.out)
  have HVX15 := Lib.hid (HVX14.out.below hb (by omega))
  have HOX15 := Lib.hid (HOX14.out.below hb (by omega))
  have HXx15 := Lib.hid ((hb.block _ (lt_of_row HXx14.out)).trans HXx14.out)
  have HVY15 := Lib.hid (HVY14.out.below hb (by omega))
  have HOY15 := Lib.hid (HOY14.out.below hb (by omega))
  have HXy15 := Lib.hid ((hb.block _ (lt_of_row HXy14.out)).trans HXy14.out)
  have HVZ15 := Lib.hid (HVZ14.out.below hb (by omega))
  have HOZ15 := Lib.hid (HOZ14.out.below hb (by omega))
  have HXz15 := Lib.hid ((hb.block _ (lt_of_row HXz14.out)).trans HXz14.out)
  have HVU15 := Lib.hid (HVU14.out.below hb (by omega))
  have HOU15 := Lib.hid (HOU14.out.below hb (by omega))
  have HXu15 := Lib.hid ((hb.block _ (lt_of_row HXu14.out)).trans HXu14.out)
  clear hb HVA14 HOA14 HB14 HXa14 HVX14 HOX14 HXx14 HVY14 HOY14 HXy14 HVZ14 HOZ14 HXz14 HVU14 HOU14 HXu14
  clear HL14
  have hS8 : w15.cell? ⟨w0.heap.size, 0, none⟩ = some (.slice ava 4 avc) ∧ w15.cell? ⟨w0.heap.size, 1, none⟩ = some (.slice aoa l.length aoc) ∧ w15.cell? ⟨w3.heap.size, 0, none⟩ = some (.slice xva 4 xvc) ∧ w15.cell? ⟨w3.heap.size, 1, none⟩ = some (.slice xoa l1.length xoc) ∧ w15.cell? ⟨w5.heap.size, 0, none⟩ = some (.slice yva 4 yvc) ∧ w15.cell? ⟨w5.heap.size, 1, none⟩ = some (.slice yoa l2.length yoc) ∧ w15.cell? ⟨w7.heap.size, 0, none⟩ = some (.slice zva 4 zvc) ∧ w15.cell? ⟨w7.heap.size, 1, none⟩ = some (.slice zoa l3.length zoc) ∧ w15.cell? ⟨w9.heap.size, 0, none⟩ = some (.slice uva 4 uvc) ∧ w15.cell? ⟨w9.heap.size, 1, none⟩ = some (.slice uoa l4.length uoc) := ⟨(pair_cells HXa15.out).1, (pair_cells HXa15.out).2, (pair_cells HXx15.out).1, (pair_cells HXx15.out).2, (pair_cells HXy15.out).1, (pair_cells HXy15.out).2, (pair_cells HXz15.out).1, (pair_cells HXz15.out).2, (pair_cells HXu15.out).1, (pair_cells HXu15.out).2⟩
  refine hK.out _ _ hS8 (fun hHeld9 => ?_)
  clear hK K
  (try simp only [Act.put, List.setIfInBounds_toArray, List.set_cons_zero, List.set_cons_succ])
  clear hHeld9
  refine wpAnyH_take (i := 12) (oi := { dst := some 49, op := .binOp .neq 2 (.tmp 45) (.tmp 48) 2, type := 4, pos := "laws.go:336", after := #[⟨8, .data⟩, ⟨11, .data⟩, ⟨5, .guard⟩], guard := some (5, false) }) (v := ?_) rfl (by kernel_rfl) (by kernel_rfl) (by kernel_rfl) (fun _ _ _ h => h) (Or.inl ⟨by rfl, ?_⟩) (by assumption) ?_
  rotate_left
  · intro w hSw
    (try dsimp only at hSw)
    first | (go_simp; done) | (go_simp; with_reducible rfl)
  (try simp only [Act.put, List.setIfInBounds_toArray, List.set_cons_zero, List.set_cons_succ])
  refine wpAnyH_take (i := 13) (oi := { dst := some 50, op := .pick (.tmp 42) (.const (Value.bool true)) (.tmp 49), type := 4, pos := "laws.go:336", after := #[⟨5, .data⟩, ⟨12, .data⟩], guard := none }) (v := ?_) rfl (by kernel_rfl) (by kernel_rfl) (by kernel_rfl) (fun _ _ _ h => h) (Or.inl ⟨by rfl, ?_⟩) (by assumption) ?_
  rotate_left
  · intro w hSw
    (try dsimp only at hSw)
    first | (go_simp; done) | (go_simp; with_reducible rfl)
  (try simp only [Act.put, List.setIfInBounds_toArray, List.set_cons_zero, List.set_cons_succ])
  refine wpAnyH_take (i := 14) (oi := { dst := some 51, op := .move (.tmp 50), type := 4, pos := "laws.go:336", after := #[⟨13, .data⟩, ⟨11, .chain⟩], guard := none }) (v := ?_) rfl (by kernel_rfl) (by kernel_rfl) (by kernel_rfl) (fun _ _ _ h => h) (Or.inl ⟨by rfl, ?_⟩) (by assumption) ?_
  rotate_left
  · intro w hSw
    (try dsimp only at hSw)
    first | (go_simp; done) | (go_simp; with_reducible rfl)
  (try simp only [Act.put, List.setIfInBounds_toArray, List.set_cons_zero, List.set_cons_succ])
  refine wpAnyH_take (i := 15) (oi := { dst := some 52, op := .load 27 (.tmp 7), type := 27, pos := "laws.go:336", after := #[⟨14, .guard⟩], guard := some (14, false) }) (v := ?_) rfl (by kernel_rfl) (by kernel_rfl) (by kernel_rfl) (fun _ _ _ h => h) (Or.inl ⟨by rfl, ?_⟩) (by assumption) ?_
  rotate_left
  · intro w hSw
    (try dsimp only at hSw)
    first | (go_simp; done) | (go_simp; with_reducible rfl)
  (try simp only [Act.put, List.setIfInBounds_toArray, List.set_cons_zero, List.set_cons_succ])
  refine wpAnyH_take (i := 16) (oi := { dst := some 53, op := .move (.tmp 8), type := 9, pos := "laws.go:336", after := #[⟨14, .guard⟩], guard := some (14, false) }) (v := ?_) rfl (by kernel_rfl) (by kernel_rfl) (by kernel_rfl) (fun _ _ _ h => h) (Or.inl ⟨by rfl, ?_⟩) (by assumption) ?_
  rotate_left
  · intro w hSw
    (try dsimp only at hSw)
    first | (go_simp; done) | (go_simp; with_reducible rfl)
  (try simp only [Act.put, List.setIfInBounds_toArray, List.set_cons_zero, List.set_cons_succ])
  refine wpAnyH_take (i := 18) (oi := { dst := some 55, op := .load 27 (.tmp 7), type := 27, pos := "laws.go:336", after := #[⟨14, .guard⟩], guard := some (14, false) }) (v := ?_) rfl (by kernel_rfl) (by kernel_rfl) (by kernel_rfl) (fun _ _ _ h => h) (Or.inl ⟨by rfl, ?_⟩) (by assumption) ?_
  rotate_left
  · intro w hSw
    (try dsimp only at hSw)
    first | (go_simp; done) | (go_simp; with_reducible rfl)
  (try simp only [Act.put, List.setIfInBounds_toArray, List.set_cons_zero, List.set_cons_succ])
  refine wpAnyH_take (i := 19) (oi := { dst := some 56, op := .move (.tmp 8), type := 9, pos := "laws.go:336", after := #[⟨14, .guard⟩], guard := some (14, false) }) (v := ?_) rfl (by kernel_rfl) (by kernel_rfl) (by kernel_rfl) (fun _ _ _ h => h) (Or.inl ⟨by rfl, ?_⟩) (by assumption) ?_
  rotate_left
  · intro w hSw
    (try dsimp only at hSw)
    first | (go_simp; done) | (go_simp; with_reducible rfl)
  (try simp only [Act.put, List.setIfInBounds_toArray, List.set_cons_zero, List.set_cons_succ])
  refine wpAnyH_ready (rs := [17]) (by kernel_rfl) (by simp) ?_
  refine AllReadyH.cons (o := { dst := some 54, op := .call { callee := .value (.func 18), args := #[.tmp 52, .tmp 53], argTypes := #[27, 9] }, type := 2, pos := "laws.go:336", after := #[⟨15, .data⟩, ⟨16, .data⟩, ⟨14, .chain⟩, ⟨14, .guard⟩], guard := some (14, false) }) rfl (fun K hK => ?_) AllReadyH.nil
  go_simp
  go_at_call 18
  refine (implQtyOf w15 w15.heap.size yva yoa 4 yvc l2.length yoc x2 l2 t2 (HVY15.out.more (by omega)) (HOY15.out.more (by omega)) (Nat.le_refl _) (by omega) ht2' HCY.out.1 ⟨by omega, HCY.out.2.1⟩).mono ?_
  rintro e w16 ⟨rfl, hb⟩
  rw [HE2.out]
  have HL16 := Lib.hid (HL15.out.below hb (by omega))
  have hs16 := hb.size
  have HVA16 := Lib.hid (HVA15.out.below hb (by omega))
  have HOA16 := Lib.hid (HOA15.out.below hb (by omega))
  have HB16 := Lib.hid (HB15.out.trans (hb.mono (by omega)))
  have HXa16 := Lib.hid ((hb.block _ (lt_of_row HXa15.out)).trans HXa15.out)
  have HVX16 := Lib.hid (HVX15.out.below hb (by omega))
  have HOX16 := Lib.hid (HOX15.out.below hb (by omega))
  have HXx16 := Lib.hid ((hb.block _ (lt_of_row HXx15.out)).trans HXx15.out)
  have HVY16 := Lib.hid (HVY15.out.below hb (by omega))
  have HOY16 := Lib.hid (HOY15.out.below hb (by omega))
  have HXy16 := Lib.hid ((hb.block _ (lt_of_row HXy15.out)).trans HXy15.out)
  have HVZ16 := Lib.hid (HVZ15.out.below hb (by omega))
  have HOZ16 := Lib.hid (HOZ15.out.below hb (by omega))
  have HXz16 := Lib.hid ((hb.block _ (lt_of_row HXz15.out)).trans HXz15.out)
  have HVU16 := Lib.hid (HVU15.out.below hb (by omega))
  have HOU16 := Lib.hid (HOU15.out.below hb (by omega))
  have HXu16 := Lib.hid ((hb.block _ (lt_of_row HXu15.out)).trans HXu15.out)
  clear hb HVA15 HOA15 HB15 HXa15 HVX15 HOX15 HXx15 HVY15 HOY15 HXy15 HVZ15 HOZ15 HXz15 HVU15 HOU15 HXu15
  clear HL15
  have hS10 : w16.cell? ⟨w0.heap.size, 0, none⟩ = some (.slice ava 4 avc) ∧ w16.cell? ⟨w0.heap.size, 1, none⟩ = some (.slice aoa l.length aoc) ∧ w16.cell? ⟨w3.heap.size, 0, none⟩ = some (.slice xva 4 xvc) ∧ w16.cell? ⟨w3.heap.size, 1, none⟩ = some (.slice xoa l1.length xoc) ∧ w16.cell? ⟨w5.heap.size, 0, none⟩ = some (.slice yva 4 yvc) ∧ w16.cell? ⟨w5.heap.size, 1, none⟩ = some (.slice yoa l2.length yoc) ∧ w16.cell? ⟨w7.heap.size, 0, none⟩ = some (.slice zva 4 zvc) ∧ w16.cell? ⟨w7.heap.size, 1, none⟩ = some (.slice zoa l3.length zoc) ∧ w16.cell? ⟨w9.heap.size, 0, none⟩ = some (.slice uva 4 uvc) ∧ w16.cell? ⟨w9.heap.size, 1, none⟩ = some (.slice uoa l4.length uoc) := ⟨(pair_cells HXa16.out).1, (pair_cells HXa16.out).2, (pair_cells HXx16.out).1, (pair_cells HXx16.out).2, (pair_cells HXy16.out).1, (pair_cells HXy16.out).2, (pair_cells HXz16.out).1, (pair_cells HXz16.out).2, (pair_cells HXu16.out).1, (pair_cells HXu16.out).2⟩
  refine hK.out _ _ hS10 (fun hHeld11 => ?_)
  clear hK K
  (try simp only [Act.put, List.setIfInBounds_toArray, List.set_cons_zero, List.set_cons_succ])
  clear hHeld11
  refine wpAnyH_ready (rs := [20]) (by kernel_rfl) (by simp) ?_
  refine AllReadyH.cons (o := { dst := some 57, op := .call { callee := .value (.func 27), args := #[.tmp 55, .tmp 56], argTypes := #[27, 9] }, type := 2, pos := "laws.go:336", after := #[⟨18, .data⟩, ⟨19, .data⟩, ⟨17, .chain⟩, ⟨14, .guard⟩], guard := some (14, false) }) rfl (fun K hK => ?_) AllReadyH.nil
  go_simp
  go_at_call 27
  refine (specQtyOf w16 w16.heap.size yva yoa 4 yvc l2.length yoc x2 l2 t2 (HVY16.out.more (by omega)) (HOY16.out.more (by omega)) (Nat.le_refl _) (by omega) (by omega) HIY.out).mono ?_
  rintro e w17 ⟨rfl, hb⟩
  rw [HE2.out]
  have HL17 := Lib.hid (HL16.out.below hb (by omega))
  have hs17 := hb.size
  have HVA17 := Lib.hid (HVA16.out.below hb (by omega))
  have HOA17 := Lib.hid (HOA16.out.below hb (by omega))
  have HB17 := Lib.hid (HB16.out.trans (hb.mono (by omega)))
  have HXa17 := Lib.hid ((hb.block _ (lt_of_row HXa16.out)).trans HXa16.out)
  have HVX17 := Lib.hid (HVX16.out.below hb (by omega))
  have HOX17 := Lib.hid (HOX16.out.below hb (by omega))
  have HXx17 := Lib.hid ((hb.block _ (lt_of_row HXx16.out)).trans HXx16.out)
  have HVY17 := Lib.hid (HVY16.out.below hb (by omega))
  have HOY17 := Lib.hid (HOY16.out.below hb (by omega))
  have HXy17 := Lib.hid ((hb.block _ (lt_of_row HXy16.out)).trans HXy16.out)
  have HVZ17 := Lib.hid (HVZ16.out.below hb (by omega))
  have HOZ17 := Lib.hid (HOZ16.out.below hb (by omega))
  have HXz17 := Lib.hid ((hb.block _ (lt_of_row HXz16.out)).trans HXz16.out)
  have HVU17 := Lib.hid (HVU16.out.below hb (by omega))
  have HOU17 := Lib.hid (HOU16.out.below hb (by omega))
  have HXu17 := Lib.hid ((hb.block _ (lt_of_row HXu16.out)).trans HXu16.out)
  clear hb HVA16 HOA16 HB16 HXa16 HVX16 HOX16 HXx16 HVY16 HOY16 HXy16 HVZ16 HOZ16 HXz16 HVU16 HOU16 HXu16
  clear HL16
  have hS12 : w17.cell? ⟨w0.heap.size, 0, none⟩ = some (.slice ava 4 avc) ∧ w17.cell? ⟨w0.heap.size, 1, none⟩ = some (.slice aoa l.length aoc) ∧ w17.cell? ⟨w3.heap.size, 0, none⟩ = some (.slice xva 4 xvc) ∧ w17.cell? ⟨w3.heap.size, 1, none⟩ = some (.slice xoa l1.length xoc) ∧ w17.cell? ⟨w5.heap.size, 0, none⟩ = some (.slice yva 4 yvc) ∧ w17.cell? ⟨w5.heap.size, 1, none⟩ = some (.slice yoa l2.length yoc) ∧ w17.cell? ⟨w7.heap.size, 0, none⟩ = some (.slice zva 4 zvc) ∧ w17.cell? ⟨w7.heap.size, 1, none⟩ = some (.slice zoa l3.length zoc) ∧ w17.cell? ⟨w9.heap.size, 0, none⟩ = some (.slice uva 4 uvc) ∧ w17.cell? ⟨w9.heap.size, 1, none⟩ = some (.slice uoa l4.length uoc) := ⟨(pair_cells HXa17.out).1, (pair_cells HXa17.out).2, (pair_cells HXx17.out).1, (pair_cells HXx17.out).2, (pair_cells HXy17.out).1, (pair_cells HXy17.out).2, (pair_cells HXz17.out).1, (pair_cells HXz17.out).2, (pair_cells HXu17.out).1, (pair_cells HXu17.out).2⟩
  refine hK.out _ _ hS12 (fun hHeld13 => ?_)
  clear hK K
  (try simp only [Act.put, List.setIfInBounds_toArray, List.set_cons_zero, List.set_cons_succ])
  clear hHeld13
  refine wpAnyH_take (i := 21) (oi := { dst := some 58, op := .binOp .neq 2 (.tmp 54) (.tmp 57) 2, type := 4, pos := "laws.go:336", after := #[⟨17, .data⟩, ⟨20, .data⟩, ⟨14, .guard⟩], guard := some (14, false) }) (v := ?_) rfl (by kernel_rfl) (by kernel_rfl) (by kernel_rfl) (fun _ _ _ h => h) (Or.inl ⟨by rfl, ?_⟩) (by assumption) ?_
  rotate_left
  · intro w hSw
    (try dsimp only at hSw)
    first | (go_simp; done) | (go_simp; with_reducible rfl)
  (try simp only [Act.put, List.setIfInBounds_toArray, List.set_cons_zero, List.set_cons_succ])
  refine wpAnyH_take (i := 22) (oi := { dst := some 59, op := .pick (.tmp 51) (.const (Value.bool true)) (.tmp 58), type := 4, pos := "laws.go:336", after := #[⟨14, .data⟩, ⟨21, .data⟩], guard := none }) (v := ?_) rfl (by kernel_rfl) (by kernel_rfl) (by kernel_rfl) (fun _ _ _ h => h) (Or.inl ⟨by rfl, ?_⟩) (by assumption) ?_
  rotate_left
  · intro w hSw
    (try dsimp only at hSw)
    first | (go_simp; done) | (go_simp; with_reducible rfl)
  (try simp only [Act.put, List.setIfInBounds_toArray, List.set_cons_zero, List.set_cons_succ])
  refine wpAnyH_take (i := 23) (oi := { dst := some 60, op := .move (.tmp 59), type := 4, pos := "laws.go:336", after := #[⟨22, .data⟩, ⟨20, .chain⟩], guard := none }) (v := ?_) rfl (by kernel_rfl) (by kernel_rfl) (by kernel_rfl) (fun _ _ _ h => h) (Or.inl ⟨by rfl, ?_⟩) (by assumption) ?_
  rotate_left
  · intro w hSw
    (try dsimp only at hSw)
    first | (go_simp; done) | (go_simp; with_reducible rfl)
  (try simp only [Act.put, List.setIfInBounds_toArray, List.set_cons_zero, List.set_cons_succ])
  refine wpAnyH_take (i := 24) (oi := { dst := some 61, op := .load 27 (.tmp 9), type := 27, pos := "laws.go:336", after := #[⟨23, .guard⟩], guard := some (23, false) }) (v := ?_) rfl (by kernel_rfl) (by kernel_rfl) (by kernel_rfl) (fun _ _ _ h => h) (Or.inl ⟨by rfl, ?_⟩) (by assumption) ?_
  rotate_left
  · intro w hSw
    (try dsimp only at hSw)
    first | (go_simp; done) | (go_simp; with_reducible rfl)
  (try simp only [Act.put, List.setIfInBounds_toArray, List.set_cons_zero, List.set_cons_succ])
  refine wpAnyH_take (i := 25) (oi := { dst := some 62, op := .move (.tmp 10), type := 9, pos := "laws.go:336", after := #[⟨23, .guard⟩], guard := some (23, false) }) (v := ?_) rfl (by kernel_rfl) (by kernel_rfl) (by kernel_rfl) (fun _ _ _ h => h) (Or.inl ⟨by rfl, ?_⟩) (by assumption) ?_
  rotate_left
  · intro w hSw
    (try dsimp only at hSw)
    first | (go_simp; done) | (go_simp; with_reducible rfl)
  (try simp only [Act.put, List.setIfInBounds_toArray, List.set_cons_zero, List.set_cons_succ])
  refine wpAnyH_take (i := 27) (oi := { dst := some 64, op := .load 27 (.tmp 9), type := 27, pos := "laws.go:336", after := #[⟨23, .guard⟩], guard := some (23, false) }) (v := ?_) rfl (by kernel_rfl) (by kernel_rfl) (by kernel_rfl) (fun _ _ _ h => h) (Or.inl ⟨by rfl, ?_⟩) (by assumption) ?_
  rotate_left
  · intro w hSw
    (try dsimp only at hSw)
    first | (go_simp; done) | (go_simp; with_reducible rfl)
  (try simp only [Act.put, List.setIfInBounds_toArray, List.set_cons_zero, List.set_cons_succ])
  refine wpAnyH_take (i := 28) (oi := { dst := some 65, op := .move (.tmp 10), type := 9, pos := "laws.go:336", after := #[⟨23, .guard⟩], guard := some (23, false) }) (v := ?_) rfl (by kernel_rfl) (by kernel_rfl) (by kernel_rfl) (fun _ _ _ h => h) (Or.inl ⟨by rfl, ?_⟩) (by assumption) ?_
  rotate_left
  · intro w hSw
    (try dsimp only at hSw)
    first | (go_simp; done) | (go_simp; with_reducible rfl)
  (try simp only [Act.put, List.setIfInBounds_toArray, List.set_cons_zero, List.set_cons_succ])
  refine wpAnyH_ready (rs := [26]) (by kernel_rfl) (by simp) ?_
  refine AllReadyH.cons (o := { dst := some 63, op := .call { callee := .value (.func 19), args := #[.tmp 61, .tmp 62], argTypes := #[27, 9] }, type := 4, pos := "laws.go:336", after := #[⟨24, .data⟩, ⟨25, .data⟩, ⟨23, .chain⟩, ⟨23, .guard⟩], guard := some (23, false) }) rfl (fun K hK => ?_) AllReadyH.nil
  go_simp
  go_at_call 19
  refine (implSavedOf w17 w17.heap.size zva zoa 4 zvc l3.length zoc x3 l3 t3 (HVZ17.out.more (by omega)) (HOZ17.out.more (by omega)) (Nat.le_refl _) (by omega) ht3' HCZ.out.1 ⟨by omega, HCZ.out.2.1⟩).mono ?_
  rintro e w18 ⟨rfl, hb⟩
  rw [HE3.out]
  have HL18 := Lib.hid (HL17.out.below hb (by omega))
  have hs18 := hb.size
  have HVA18 := Lib.hid (HVA17.out.below hb (by omega))
  have HOA18 := Lib.hid (HOA17.out.below hb (by omega))
  have HB18 := Lib.hid (HB17.out.trans (hb.mono (by omega)))
  have HXa18 := Lib.hid ((hb.block _ (lt_of_row HXa17.out)).trans HXa17.out)
  have HVX18 := Lib.hid (HVX17.out.below hb (by omega))
  have HOX18 := Lib.hid (HOX17.out.below hb (by omega))
  have HXx18 := Lib.hid ((hb.block _ (lt_of_row HXx17.out)).trans HXx17.out)
  have HVY18 := Lib.hid (HVY17.out.below hb (by omega))
  have HOY18 := Lib.hid (HOY17.out.below hb (by omega))
  have HXy18 := Lib.hid ((hb.block _ (lt_of_row HXy17.out)).trans HXy17.out)
  have HVZ18 := Lib.hid (HVZ17.out.below hb (by omega))
  have HOZ18 := Lib.hid (HOZ17.out.below hb (by omega))
  have HXz18 := Lib.hid ((hb.block _ (lt_of_row HXz17.out)).trans HXz17.out)
  have HVU18 := Lib.hid (HVU17.out.below hb (by omega))
  have HOU18 := Lib.hid (HOU17.out.below hb (by omega))
  have HXu18 := Lib.hid ((hb.block _ (lt_of_row HXu17.out)).trans HXu17.out)
  clear hb HVA17 HOA17 HB17 HXa17 HVX17 HOX17 HXx17 HVY17 HOY17 HXy17 HVZ17 HOZ17 HXz17 HVU17 HOU17 HXu17
  clear HL17
  have hS14 : w18.cell? ⟨w0.heap.size, 0, none⟩ = some (.slice ava 4 avc) ∧ w18.cell? ⟨w0.heap.size, 1, none⟩ = some (.slice aoa l.length aoc) ∧ w18.cell? ⟨w3.heap.size, 0, none⟩ = some (.slice xva 4 xvc) ∧ w18.cell? ⟨w3.heap.size, 1, none⟩ = some (.slice xoa l1.length xoc) ∧ w18.cell? ⟨w5.heap.size, 0, none⟩ = some (.slice yva 4 yvc) ∧ w18.cell? ⟨w5.heap.size, 1, none⟩ = some (.slice yoa l2.length yoc) ∧ w18.cell? ⟨w7.heap.size, 0, none⟩ = some (.slice zva 4 zvc) ∧ w18.cell? ⟨w7.heap.size, 1, none⟩ = some (.slice zoa l3.length zoc) ∧ w18.cell? ⟨w9.heap.size, 0, none⟩ = some (.slice uva 4 uvc) ∧ w18.cell? ⟨w9.heap.size, 1, none⟩ = some (.slice uoa l4.length uoc) := ⟨(pair_cells HXa18.out).1, (pair_cells HXa18.out).2, (pair_cells HXx18.out).1, (pair_cells HXx18.out).2, (pair_cells HXy18.out).1, (pair_cells HXy18.out).2, (pair_cells HXz18.out).1, (pair_cells HXz18.out).2, (pair_cells HXu18.out).1, (pair_cells HXu18.out).2⟩
  refine hK.out _ _ hS14 (fun hHeld15 => ?_)
  clear hK K
  (try simp only [Act.put, List.setIfInBounds_toArray, List.set_cons_zero, List.set_cons_succ])
  clear hHeld15
  refine wpAnyH_ready (rs := [29]) (by kernel_rfl) (by simp) ?_
  refine AllReadyH.cons (o := { dst := some 66, op := .call { callee := .value (.func 28), args := #[.tmp 64, .tmp 65], argTypes := #[27, 9] }, type := 4, pos := "laws.go:336", after := #[⟨27, .data⟩, ⟨28, .data⟩, ⟨26, .chain⟩, ⟨23, .guard⟩], guard := some (23, false) }) rfl (fun K hK => ?_) AllReadyH.nil
  go_simp
  go_at_call 28
  refine (specSavedOf w18 w18.heap.size zva zoa 4 zvc l3.length zoc x3 l3 t3 (HVZ18.out.more (by omega)) (HOZ18.out.more (by omega)) (Nat.le_refl _) (by omega) (by omega) HIZ.out).mono ?_
  rintro e w19 ⟨rfl, hb⟩
  rw [HE3.out]
  have HL19 := Lib.hid (HL18.out.below hb (by omega))
  have hs19 := hb.size
  have HVA19 := Lib.hid (HVA18.out.below hb (by omega))
  have HOA19 := Lib.hid (HOA18.out.below hb (by omega))
  have HB19 := Lib.hid (HB18.out.trans (hb.mono (by omega)))
  have HXa19 := Lib.hid ((hb.block _ (lt_of_row HXa18.out)).trans HXa18.out)
  have HVX19 := Lib.hid (HVX18.out.below hb (by omega))
  have HOX19 := Lib.hid (HOX18.out.below hb (by omega))
  have HXx19 := Lib.hid ((hb.block _ (lt_of_row HXx18.out)).trans HXx18.out)
  have HVY19 := Lib.hid (HVY18.out.below hb (by omega))
  have HOY19 := Lib.hid (HOY18.out.below hb (by omega))
  have HXy19 := Lib.hid ((hb.block _ (lt_of_row HXy18.out)).trans HXy18.out)
  have HVZ19 := Lib.hid (HVZ18.out.below hb (by omega))
  have HOZ19 := Lib.hid (HOZ18.out.below hb (by omega))
  have HXz19 := Lib.hid ((hb.block _ (lt_of_row HXz18.out)).trans HXz18.out)
  have HVU19 := Lib.hid (HVU18.out.below hb (by omega))
  have HOU19 := Lib.hid (HOU18.out.below hb (by omega))
  have HXu19 := Lib.hid ((hb.block _ (lt_of_row HXu18.out)).trans HXu18.out)
  clear hb HVA18 HOA18 HB18 HXa18 HVX18 HOX18 HXx18 HVY18 HOY18 HXy18 HVZ18 HOZ18 HXz18 HVU18 HOU18 HXu18
  clear HL18
  have hS16 : w19.cell? ⟨w0.heap.size, 0, none⟩ = some (.slice ava 4 avc) ∧ w19.cell? ⟨w0.heap.size, 1, none⟩ = some (.slice aoa l.length aoc) ∧ w19.cell? ⟨w3.heap.size, 0, none⟩ = some (.slice xva 4 xvc) ∧ w19.cell? ⟨w3.heap.size, 1, none⟩ = some (.slice xoa l1.length xoc) ∧ w19.cell? ⟨w5.heap.size, 0, none⟩ = some (.slice yva 4 yvc) ∧ w19.cell? ⟨w5.heap.size, 1, none⟩ = some (.slice yoa l2.length yoc) ∧ w19.cell? ⟨w7.heap.size, 0, none⟩ = some (.slice zva 4 zvc) ∧ w19.cell? ⟨w7.heap.size, 1, none⟩ = some (.slice zoa l3.length zoc) ∧ w19.cell? ⟨w9.heap.size, 0, none⟩ = some (.slice uva 4 uvc) ∧ w19.cell? ⟨w9.heap.size, 1, none⟩ = some (.slice uoa l4.length uoc) := ⟨(pair_cells HXa19.out).1, (pair_cells HXa19.out).2, (pair_cells HXx19.out).1, (pair_cells HXx19.out).2, (pair_cells HXy19.out).1, (pair_cells HXy19.out).2, (pair_cells HXz19.out).1, (pair_cells HXz19.out).2, (pair_cells HXu19.out).1, (pair_cells HXu19.out).2⟩
  refine hK.out _ _ hS16 (fun hHeld17 => ?_)
  clear hK K
  (try simp only [Act.put, List.setIfInBounds_toArray, List.set_cons_zero, List.set_cons_succ])
  clear hHeld17
  refine wpAnyH_take (i := 30) (oi := { dst := some 67, op := .binOp .neq 4 (.tmp 63) (.tmp 66) 4, type := 4, pos := "laws.go:336", after := #[⟨26, .data⟩, ⟨29, .data⟩, ⟨23, .guard⟩], guard := some (23, false) }) (v := ?_) rfl (by kernel_rfl) (by kernel_rfl) (by kernel_rfl) (fun _ _ _ h => h) (Or.inl ⟨by rfl, ?_⟩) (by assumption) ?_
  rotate_left
  · intro w hSw
    (try dsimp only at hSw)
    first | (go_simp; done) | (go_simp; with_reducible rfl)
  (try simp only [Act.put, List.setIfInBounds_toArray, List.set_cons_zero, List.set_cons_succ])
  refine wpAnyH_take (i := 31) (oi := { dst := some 68, op := .pick (.tmp 60) (.const (Value.bool true)) (.tmp 67), type := 4, pos := "laws.go:336", after := #[⟨23, .data⟩, ⟨30, .data⟩], guard := none }) (v := ?_) rfl (by kernel_rfl) (by kernel_rfl) (by kernel_rfl) (fun _ _ _ h => h) (Or.inl ⟨by rfl, ?_⟩) (by assumption) ?_
  rotate_left
  · intro w hSw
    (try dsimp only at hSw)
    first | (go_simp; done) | (go_simp; with_reducible rfl)
  (try simp only [Act.put, List.setIfInBounds_toArray, List.set_cons_zero, List.set_cons_succ])
  refine wpAnyH_take (i := 32) (oi := { dst := some 69, op := .move (.tmp 68), type := 4, pos := "laws.go:336", after := #[⟨31, .data⟩, ⟨29, .chain⟩], guard := none }) (v := ?_) rfl (by kernel_rfl) (by kernel_rfl) (by kernel_rfl) (fun _ _ _ h => h) (Or.inl ⟨by rfl, ?_⟩) (by assumption) ?_
  rotate_left
  · intro w hSw
    (try dsimp only at hSw)
    first | (go_simp; done) | (go_simp; with_reducible rfl)
  (try simp only [Act.put, List.setIfInBounds_toArray, List.set_cons_zero, List.set_cons_succ])
  refine wpAnyH_take (i := 33) (oi := { dst := some 70, op := .load 27 (.tmp 11), type := 27, pos := "laws.go:336", after := #[⟨32, .guard⟩], guard := some (32, false) }) (v := ?_) rfl (by kernel_rfl) (by kernel_rfl) (by kernel_rfl) (fun _ _ _ h => h) (Or.inl ⟨by rfl, ?_⟩) (by assumption) ?_
  rotate_left
  · intro w hSw
    (try dsimp only at hSw)
    first | (go_simp; done) | (go_simp; with_reducible rfl)
  (try simp only [Act.put, List.setIfInBounds_toArray, List.set_cons_zero, List.set_cons_succ])
  refine wpAnyH_take (i := 35) (oi := { dst := some 72, op := .load 27 (.tmp 11), type := 27, pos := "laws.go:336", after := #[⟨32, .guard⟩], guard := some (32, false) }) (v := ?_) rfl (by kernel_rfl) (by kernel_rfl) (by kernel_rfl) (fun _ _ _ h => h) (Or.inl ⟨by rfl, ?_⟩) (by assumption) ?_
  rotate_left
  · intro w hSw
    (try dsimp only at hSw)
    first | (go_simp; done) | (go_simp; with_reducible rfl)
  (try simp only [Act.put, List.setIfInBounds_toArray, List.set_cons_zero, List.set_cons_succ])
  refine wpAnyH_ready (rs := [34]) (by kernel_rfl) (by simp) ?_
  refine AllReadyH.cons (o := { dst := some 71, op := .call { callee := .value (.func 13), args := #[.tmp 70], argTypes := #[27] }, type := 34, pos := "laws.go:336", after := #[⟨33, .data⟩, ⟨32, .chain⟩, ⟨32, .guard⟩], guard := some (32, false) }) rfl (fun K hK => ?_) AllReadyH.nil
  go_simp
  go_at_call 13
  refine (implItems w19 w19.heap.size uva uoa 4 uvc l4.length uoc x4 l4  (HVU19.out.more (by omega)) (HOU19.out.more (by omega)) (Nat.le_refl _) (by omega) HCU.out.1 ⟨by omega, HCU.out.2.1⟩ hit4).mono ?_
  rintro e w20 ⟨ua, uc, hre, hns, hb⟩
  rw [HM.out] at hre hns
  subst hre
  have HL20 := Lib.hid (HL19.out.below hb (by omega))
  have hs20 := hb.size
  have HVA20 := Lib.hid (HVA19.out.below hb (by omega))
  have HOA20 := Lib.hid (HOA19.out.below hb (by omega))
  have HB20 := Lib.hid (HB19.out.trans (hb.mono (by omega)))
  have HXa20 := Lib.hid ((hb.block _ (lt_of_row HXa19.out)).trans HXa19.out)
  have HVX20 := Lib.hid (HVX19.out.below hb (by omega))
  have HOX20 := Lib.hid (HOX19.out.below hb (by omega))
  have HXx20 := Lib.hid ((hb.block _ (lt_of_row HXx19.out)).trans HXx19.out)
  have HVY20 := Lib.hid (HVY19.out.below hb (by omega))
  have HOY20 := Lib.hid (HOY19.out.below hb (by omega))
  have HXy20 := Lib.hid ((hb.block _ (lt_of_row HXy19.out)).trans HXy19.out)
  have HVZ20 := Lib.hid (HVZ19.out.below hb (by omega))
  have HOZ20 := Lib.hid (HOZ19.out.below hb (by omega))
  have HXz20 := Lib.hid ((hb.block _ (lt_of_row HXz19.out)).trans HXz19.out)
  have HVU20 := Lib.hid (HVU19.out.below hb (by omega))
  have HOU20 := Lib.hid (HOU19.out.below hb (by omega))
  have HXu20 := Lib.hid ((hb.block _ (lt_of_row HXu19.out)).trans HXu19.out)
  clear hb HVA19 HOA19 HB19 HXa19 HVX19 HOX19 HXx19 HVY19 HOY19 HXy19 HVZ19 HOZ19 HXz19 HVU19 HOU19 HXu19
  clear HL19
  have hS18 : w20.cell? ⟨w0.heap.size, 0, none⟩ = some (.slice ava 4 avc) ∧ w20.cell? ⟨w0.heap.size, 1, none⟩ = some (.slice aoa l.length aoc) ∧ w20.cell? ⟨w3.heap.size, 0, none⟩ = some (.slice xva 4 xvc) ∧ w20.cell? ⟨w3.heap.size, 1, none⟩ = some (.slice xoa l1.length xoc) ∧ w20.cell? ⟨w5.heap.size, 0, none⟩ = some (.slice yva 4 yvc) ∧ w20.cell? ⟨w5.heap.size, 1, none⟩ = some (.slice yoa l2.length yoc) ∧ w20.cell? ⟨w7.heap.size, 0, none⟩ = some (.slice zva 4 zvc) ∧ w20.cell? ⟨w7.heap.size, 1, none⟩ = some (.slice zoa l3.length zoc) ∧ w20.cell? ⟨w9.heap.size, 0, none⟩ = some (.slice uva 4 uvc) ∧ w20.cell? ⟨w9.heap.size, 1, none⟩ = some (.slice uoa l4.length uoc) := ⟨(pair_cells HXa20.out).1, (pair_cells HXa20.out).2, (pair_cells HXx20.out).1, (pair_cells HXx20.out).2, (pair_cells HXy20.out).1, (pair_cells HXy20.out).2, (pair_cells HXz20.out).1, (pair_cells HXz20.out).2, (pair_cells HXu20.out).1, (pair_cells HXu20.out).2⟩
  refine hK.out _ _ hS18 (fun hHeld19 => ?_)
  clear hK K
  (try simp only [Act.put, List.setIfInBounds_toArray, List.set_cons_zero, List.set_cons_succ])
  clear hHeld19
  have HW20 := Lib.hid hns.strs
  clear hns
  refine wpAnyH_ready (rs := [36]) (by kernel_rfl) (by simp) ?_
  refine AllReadyH.cons (o := { dst := some 73, op := .call { callee := .value (.func 15), args := #[.tmp 72], argTypes := #[27] }, type := 34, pos := "laws.go:336", after := #[⟨35, .data⟩, ⟨34, .chain⟩, ⟨32, .guard⟩], guard := some (32, false) }) rfl (fun K hK => ?_) AllReadyH.nil
  go_simp
  go_at_call 15
  refine (specItems w20 w20.heap.size uva uoa 4 uvc l4.length uoc x4 l4  (HVU20.out.more (by omega)) (HOU20.out.more (by omega)) (Nat.le_refl _) (by omega) (by omega) HIU.out).mono ?_
  rintro e w21 ⟨ma, mc, hre, hns, hb⟩
  rw [HM.out] at hre hns
  subst hre
  have HL21 := Lib.hid (HL20.out.below hb (by omega))
  have HW21 := Lib.hid (HW20.out.below hb (by omega))
  have hs21 := hb.size
  have HVA21 := Lib.hid (HVA20.out.below hb (by omega))
  have HOA21 := Lib.hid (HOA20.out.below hb (by omega))
  have HB21 := Lib.hid (HB20.out.trans (hb.mono (by omega)))
  have HXa21 := Lib.hid ((hb.block _ (lt_of_row HXa20.out)).trans HXa20.out)
  have HVX21 := Lib.hid (HVX20.out.below hb (by omega))
  have HOX21 := Lib.hid (HOX20.out.below hb (by omega))
  have HXx21 := Lib.hid ((hb.block _ (lt_of_row HXx20.out)).trans HXx20.out)
  have HVY21 := Lib.hid (HVY20.out.below hb (by omega))
  have HOY21 := Lib.hid (HOY20.out.below hb (by omega))
  have HXy21 := Lib.hid ((hb.block _ (lt_of_row HXy20.out)).trans HXy20.out)
  have HVZ21 := Lib.hid (HVZ20.out.below hb (by omega))
  have HOZ21 := Lib.hid (HOZ20.out.below hb (by omega))
  have HXz21 := Lib.hid ((hb.block _ (lt_of_row HXz20.out)).trans HXz20.out)
  have HVU21 := Lib.hid (HVU20.out.below hb (by omega))
  have HOU21 := Lib.hid (HOU20.out.below hb (by omega))
  have HXu21 := Lib.hid ((hb.block _ (lt_of_row HXu20.out)).trans HXu20.out)
  clear hb HVA20 HOA20 HB20 HXa20 HVX20 HOX20 HXx20 HVY20 HOY20 HXy20 HVZ20 HOZ20 HXz20 HVU20 HOU20 HXu20
  clear HL20 HW20
  have hS20 : w21.cell? ⟨w0.heap.size, 0, none⟩ = some (.slice ava 4 avc) ∧ w21.cell? ⟨w0.heap.size, 1, none⟩ = some (.slice aoa l.length aoc) ∧ w21.cell? ⟨w3.heap.size, 0, none⟩ = some (.slice xva 4 xvc) ∧ w21.cell? ⟨w3.heap.size, 1, none⟩ = some (.slice xoa l1.length xoc) ∧ w21.cell? ⟨w5.heap.size, 0, none⟩ = some (.slice yva 4 yvc) ∧ w21.cell? ⟨w5.heap.size, 1, none⟩ = some (.slice yoa l2.length yoc) ∧ w21.cell? ⟨w7.heap.size, 0, none⟩ = some (.slice zva 4 zvc) ∧ w21.cell? ⟨w7.heap.size, 1, none⟩ = some (.slice zoa l3.length zoc) ∧ w21.cell? ⟨w9.heap.size, 0, none⟩ = some (.slice uva 4 uvc) ∧ w21.cell? ⟨w9.heap.size, 1, none⟩ = some (.slice uoa l4.length uoc) := ⟨(pair_cells HXa21.out).1, (pair_cells HXa21.out).2, (pair_cells HXx21.out).1, (pair_cells HXx21.out).2, (pair_cells HXy21.out).1, (pair_cells HXy21.out).2, (pair_cells HXz21.out).1, (pair_cells HXz21.out).2, (pair_cells HXu21.out).1, (pair_cells HXu21.out).2⟩
  refine hK.out _ _ hS20 (fun hHeld21 => ?_)
  clear hK K
  (try simp only [Act.put, List.setIfInBounds_toArray, List.set_cons_zero, List.set_cons_succ])
  clear hHeld21
  have HQ21 := Lib.hid hns.strs
  clear hns
  refine wpAnyH_ready (rs := [37]) (by kernel_rfl) (by simp) ?_
  refine AllReadyH.cons (o := { dst := some 74, op := .call { callee := .value (.func 14), args := #[.tmp 71, .tmp 73], argTypes := #[34, 34] }, type := 4, pos := "laws.go:336", after := #[⟨34, .data⟩, ⟨36, .data⟩, ⟨36, .chain⟩, ⟨32, .guard⟩], guard := some (32, false) }) rfl (fun K hK => ?_) AllReadyH.nil
  go_simp
  go_at_call 14
  refine (sameTextsE w21 w21.heap.size w21.heap.size ua ma M.length uc mc M (HW21.out.more (by omega)) (HQ21.out.more (by omega)) (Nat.le_refl _) (Nat.le_refl _) (by omega)).mono ?_
  rintro e w22 ⟨rfl, hb⟩
  have HL22 := Lib.hid (HL21.out.below hb (by omega))
  have HW22 := Lib.hid (HW21.out.below hb (by omega))
  have HQ22 := Lib.hid (HQ21.out.below hb (by omega))
  have hs22 := hb.size
  have HVA22 := Lib.hid (HVA21.out.below hb (by omega))
  have HOA22 := Lib.hid (HOA21.out.below hb (by omega))
  have HB22 := Lib.hid (HB21.out.trans (hb.mono (by omega)))
  have HXa22 := Lib.hid ((hb.block _ (lt_of_row HXa21.out)).trans HXa21.out)
  have HVX22 := Lib.hid (HVX21.out.below hb (by omega))
  have HOX22 := Lib.hid (HOX21.out.below hb (by omega))
  have HXx22 := Lib.hid ((hb.block _ (lt_of_row HXx21.out)).trans HXx21.out)
  have HVY22 := Lib.hid (HVY21.out.below hb (by omega))
  have HOY22 := Lib.hid (HOY21.out.below hb (by omega))
  have HXy22 := Lib.hid ((hb.block _ (lt_of_row HXy21.out)).trans HXy21.out)
  have HVZ22 := Lib.hid (HVZ21.out.below hb (by omega))
  have HOZ22 := Lib.hid (HOZ21.out.below hb (by omega))
  have HXz22 := Lib.hid ((hb.block _ (lt_of_row HXz21.out)).trans HXz21.out)
  have HVU22 := Lib.hid (HVU21.out.below hb (by omega))
  have HOU22 := Lib.hid (HOU21.out.below hb (by omega))
  have HXu22 := Lib.hid ((hb.block _ (lt_of_row HXu21.out)).trans HXu21.out)
  clear hb HVA21 HOA21 HB21 HXa21 HVX21 HOX21 HXx21 HVY21 HOY21 HXy21 HVZ21 HOZ21 HXz21 HVU21 HOU21 HXu21
  clear HL21 HW21 HQ21
  have hS22 : w22.cell? ⟨w0.heap.size, 0, none⟩ = some (.slice ava 4 avc) ∧ w22.cell? ⟨w0.heap.size, 1, none⟩ = some (.slice aoa l.length aoc) ∧ w22.cell? ⟨w3.heap.size, 0, none⟩ = some (.slice xva 4 xvc) ∧ w22.cell? ⟨w3.heap.size, 1, none⟩ = some (.slice xoa l1.length xoc) ∧ w22.cell? ⟨w5.heap.size, 0, none⟩ = some (.slice yva 4 yvc) ∧ w22.cell? ⟨w5.heap.size, 1, none⟩ = some (.slice yoa l2.length yoc) ∧ w22.cell? ⟨w7.heap.size, 0, none⟩ = some (.slice zva 4 zvc) ∧ w22.cell? ⟨w7.heap.size, 1, none⟩ = some (.slice zoa l3.length zoc) ∧ w22.cell? ⟨w9.heap.size, 0, none⟩ = some (.slice uva 4 uvc) ∧ w22.cell? ⟨w9.heap.size, 1, none⟩ = some (.slice uoa l4.length uoc) := ⟨(pair_cells HXa22.out).1, (pair_cells HXa22.out).2, (pair_cells HXx22.out).1, (pair_cells HXx22.out).2, (pair_cells HXy22.out).1, (pair_cells HXy22.out).2, (pair_cells HXz22.out).1, (pair_cells HXz22.out).2, (pair_cells HXu22.out).1, (pair_cells HXu22.out).2⟩
  refine hK.out _ _ hS22 (fun hHeld23 => ?_)
  clear hK K
  (try simp only [Act.put, List.setIfInBounds_toArray, List.set_cons_zero, List.set_cons_succ])
  clear hHeld23
  clear HVX22 HOX22 HXx22 HVY22 HOY22 HXy22 HVZ22 HOZ22 HXz22 HVU22 HOU22 HXu22 HW22 HQ22
  refine wpAnyH_take (i := 38) (oi := { dst := some 75, op := .unOp .not 4 (.tmp 74), type := 4, pos := "laws.go:336", after := #[⟨37, .data⟩, ⟨32, .guard⟩], guard := some (32, false) }) (v := ?_) rfl (by kernel_rfl) (by kernel_rfl) (by kernel_rfl) (fun _ _ _ h => h) (Or.inl ⟨by rfl, ?_⟩) (by assumption) ?_
  rotate_left
  · intro w hSw
    (try dsimp only at hSw)
    first | (go_simp; done) | (go_simp; with_reducible rfl)
  (try simp only [Act.put, List.setIfInBounds_toArray, List.set_cons_zero, List.set_cons_succ])
  refine wpAnyH_take (i := 39) (oi := { dst := some 76, op := .pick (.tmp 69) (.const (Value.bool true)) (.tmp 75), type := 4, pos := "laws.go:336", after := #[⟨32, .data⟩, ⟨38, .data⟩], guard := none }) (v := ?_) rfl (by kernel_rfl) (by kernel_rfl) (by kernel_rfl) (fun _ _ _ h => h) (Or.inl ⟨by rfl, ?_⟩) (by assumption) ?_
  rotate_left
  · intro w hSw
    (try dsimp only at hSw)
    first | (go_simp; done) | (go_simp; with_reducible rfl)
  (try simp only [Act.put, List.setIfInBounds_toArray, List.set_cons_zero, List.set_cons_succ])
  refine wpAnyH_done (by kernel_rfl) ?_ _
  obtain ⟨c00, c01⟩ := pair_cells HXa22.out
  go_wp2_with fail
  have hc := implItems w22 w22.heap.size ava aoa 4 avc l.length aoc xs l (HVA22.out.more (by omega)) (HOA22.out.more (by omega)) (Nat.le_refl _) (by omega) HCa.out.1 ⟨by omega, HCa.out.2.1⟩ hit
  unfold ItemsPost at hc
  rw [HN.out] at hc
  refine hc.mono ?_
  clear hc
  rintro e w23 ⟨na, nc, rfl, hns, hb⟩
  clear c00 c01
  have HL23 := Lib.hid (HL22.out.below hb (by omega))
  have hs23 := hb.size
  have HVA23 := Lib.hid (HVA22.out.below hb (by omega))
  have HOA23 := Lib.hid (HOA22.out.below hb (by omega))
  have HB23 := Lib.hid (HB22.out.trans (hb.mono (by omega)))
  have HXa23 := Lib.hid ((hb.block _ (lt_of_row HXa22.out)).trans HXa22.out)
  clear hb HVA22 HOA22 HB22 HXa22
  clear HL22
  have HS23 := Lib.hid hns.strs
  clear hns
  have hnl : ((N.length : Int) != (LL.length : Int)) = false := by rw [Hln.out]; exact bne_self_eq_false _
  have hnl2 : decide ((N.length : Int) = (LL.length : Int)) = true := decide_eq_true (by have := Hln.out; omega)
  go_wp2
  go_loopw [13] (fun i wr => ∃ q : Nat, q ≤ LL.length ∧ i = .int .i64 (q : Int) ∧ Hid (Below w23.heap.size w23 wr)) (fun i _ => LL.length - (intOf i).toNat)
  case atStart => exact ⟨0, Nat.zero_le _, rfl, Below.refl _ _⟩
  case round =>
    obtain ⟨q, hq, rfl, HBr⟩ := hrel
    have hb : Below w23.heap.size w23 wr := HBr.out
    obtain ⟨w24, hwr⟩ : ∃ z, z = wr := ⟨_, rfl⟩
    subst hwr
    have HL24 := Lib.hid (HL23.out.below hb (by omega))
    have HS24 := Lib.hid (HS23.out.below hb (by omega))
    have hs24 := hb.size
    have HVA24 := Lib.hid (HVA23.out.below hb (by omega))
    have HOA24 := Lib.hid (HOA23.out.below hb (by omega))
    have HB24 := Lib.hid (HB23.out.trans (hb.mono (by omega)))
    have HXa24 := Lib.hid ((hb.block _ (lt_of_row HXa23.out)).trans HXa23.out)
    clear hb HVA23 HOA23 HB23 HXa23
    clear HL23 HS23
    by_cases hlt : q < LL.length
    rotate_left
    · skip
      obtain rfl : q = LL.length := by omega
      clear hlt hq
      have hqi : ¬ ((LL.length : Int) < (LL.length : Int)) := by omega
      go_wp2
      go_ret
      exact ⟨rfl, HB24.out⟩
    have hqn : q < N.length := by have := Hln.out; omega
    have hqi : (q : Int) < (LL.length : Int) := by omega
    have hqi2 : (q : Int) < (N.length : Int) := by omega
    have hq0 : ¬ ((q : Int) < 0) := by omega
    obtain ⟨lb, lo, hla, hlb, hlo⟩ := HL24.out.2 q hlt
    obtain ⟨nb, no, hna, hnb, hno⟩ := HS24.out.2 q hqn
    obtain ⟨_, hat⟩ := Hat.out q hlt
    have hmem : N.getD q ⟨#[]⟩ ∈ N := by rw [List.getD_eq_getElem?_getD, List.getElem?_eq_getElem hqn]; exact List.getElem_mem hqn
    obtain ⟨hca, hlv, hlp, hs1, hs2, hs3, hs4⟩ := Hsh.out _ hmem
    have hys := Hsz.out _ hmem
    rw [← hat] at hs1 hs2 hs3 hs4
    clear hat hmem
    have hpv : q = 0 ∨ ∃ p, q = p + 1 ∧ w24.cell? ⟨nb, no + p, none⟩ = some (.string (N.getD p ⟨#[]⟩)) ∧ ltT (N.getD p ⟨#[]⟩) (N.getD q ⟨#[]⟩) = true := by
      rcases Nat.eq_zero_or_pos q with h0 | h0
      · exact .inl h0
      · obtain ⟨p, rfl⟩ : ∃ p, q = p + 1 := ⟨q - 1, by omega⟩
        obtain ⟨nb', no', hna', _, hno'⟩ := HS24.out.2 p (by omega)
        rw [hna] at hna'
        injection hna' with e
        injection e with e1 e2
        subst e1 e2
        exact .inr ⟨p, rfl, hno', asc_at Hac.out (by omega)⟩
    obtain ⟨y, hy⟩ : ∃ z, N.getD q ⟨#[]⟩ = z := ⟨_, rfl⟩
    obtain ⟨ln, hln'⟩ : ∃ z, LL.getD q LnV.zero = z := ⟨_, rfl⟩
    rw [hy] at hno hlv hlp hs1 hs2 hs3 hys hpv
    rw [hln'] at hlo hs1 hs2 hs3 hs4
    clear hy hln'
    obtain ⟨lv, hlve⟩ : ∃ z, levelN xs l y = z := ⟨_, rfl⟩
    obtain ⟨qv, hqve⟩ : ∃ z, qtyN xs l y = z := ⟨_, rfl⟩
    obtain ⟨sv, hsve⟩ : ∃ z, savedN xs l y = z := ⟨_, rfl⟩
    rw [hlve] at hlv hlp
    rw [hqve] at hs2
    rw [hsve] at hs3
    obtain ⟨d0, d1, d2⟩ := hlo
    rw [hs1] at d0
    rw [hs2] at d1 hs4
    rw [hs3] at d2
    have HLv := Lib.hid hlve
    have HQv := Lib.hid hqve
    have HSv := Lib.hid hsve
    clear hlve hqve hsve hs1 hs2 hs3
    have HDa24 := Lib.hid d0
    have HDb24 := Lib.hid d1
    have HDc24 := Lib.hid d2
    have HDn24 := Lib.hid hno
    have Hpv := Lib.hid hpv
    clear d0 d1 d2 hno hpv
    subst hla hna
    have hrm : Int.tmod lv 2 = lv % 2 := Int.tmod_eq_emod_of_nonneg hlp
    have hmb : (lv % 2 != 1) = false := by rw [hlv]; rfl
    have hq1 : ¬ (qv < 1) := by omega
    have hq1d : decide (qv < 1) = false := decide_eq_false hq1
    have hqq : (qv != qv) = false := bne_self_eq_false _
    have hss : (sv != sv) = false := bne_self_eq_false _
    have hyy : (!(y.toList == y.toList)) = false := by simp
    go_upto_region 17 with fail
    have HBk24 : Hid (Below w24.heap.size w24 w24) := Below.refl _ _
    rcases Hpv.out with h0 | ⟨p, h0, hpc, hpl⟩
    · skip
      have hgt : ¬ ((0 : Int) < (q : Int)) := by omega
      have hgt2 : decide ((0 : Int) < (q : Int)) = false := decide_eq_false hgt
      have hgt3 : (0 < q) = False := eq_false (by omega)
      have hgt4 : decide (0 < q) = false := decide_eq_false (by omega)
      clear h0
      go_wp2_with fail
      obtain ⟨w25, hzw⟩ : ∃ z, w24.drew = z := ⟨_, rfl⟩
      have hb : Below w24.heap.size w24 w25 := by rw [← hzw]; exact ⟨rfl, rfl, rfl, Nat.le_refl _, fun _ _ => rfl⟩
      have HDa25 := Lib.hid ((hb.cell (p := ⟨lb, lo + q * 3, none⟩) (by show lb < _; omega)).trans HDa24.out)
      have HDb25 := Lib.hid ((hb.cell (p := ⟨lb, lo + q * 3 + 1, none⟩) (by show lb < _; omega)).trans HDb24.out)
      have HDc25 := Lib.hid ((hb.cell (p := ⟨lb, lo + q * 3 + 2, none⟩) (by show lb < _; omega)).trans HDc24.out)
      have HDn25 := Lib.hid ((hb.cell (p := ⟨nb, no + q, none⟩) (by show nb < _; omega)).trans HDn24.out)
      have HL25 := Lib.hid (HL24.out.below hb (by omega))
      have HS25 := Lib.hid (HS24.out.below hb (by omega))
      have hs25 := hb.size
      have HVA25 := Lib.hid (HVA24.out.below hb (by omega))
      have HOA25 := Lib.hid (HOA24.out.below hb (by omega))
      have HB25 := Lib.hid (HB24.out.trans (hb.mono (by omega)))
      have HXa25 := Lib.hid ((hb.block _ (lt_of_row HXa24.out)).trans HXa24.out)
      have HBk25 := Lib.hid (HBk24.out.trans (hb.mono (by omega)))
      clear hb HVA24 HOA24 HB24 HXa24 HBk24
      clear HL24 HS24
      clear HDa24 HDb24 HDc24 HDn24
      have hS : w25.cell? ⟨w0.heap.size, 0, none⟩ = some (.slice ava 4 avc) ∧ w25.cell? ⟨w0.heap.size, 1, none⟩ = some (.slice aoa l.length aoc) ∧ w25.cell? ⟨lb, lo + q * 3, none⟩ = some (.string y) ∧ w25.cell? ⟨lb, lo + q * 3 + 1, none⟩ = some (.int .i64 qv) ∧ w25.cell? ⟨lb, lo + q * 3 + 2, none⟩ = some (.bool sv) ∧ w25.cell? ⟨nb, no + q, none⟩ = some (.string y) := ⟨(pair_cells HXa25.out).1, (pair_cells HXa25.out).2, HDa25.out, HDb25.out, HDc25.out, HDn25.out⟩
      refine wp_region_held_drew (S := fun w' => w'.cell? ⟨w0.heap.size, 0, none⟩ = some (.slice ava 4 avc) ∧ w'.cell? ⟨w0.heap.size, 1, none⟩ = some (.slice aoa l.length aoc) ∧ w'.cell? ⟨lb, lo + q * 3, none⟩ = some (.string y) ∧ w'.cell? ⟨lb, lo + q * 3 + 1, none⟩ = some (.int .i64 qv) ∧ w'.cell? ⟨lb, lo + q * 3 + 2, none⟩ = some (.bool sv) ∧ w'.cell? ⟨nb, no + q, none⟩ = some (.string y)) (by kernel_rfl) (by rw [hzw]; exact hS) (fun hHeld => ?_)
      rw [hzw]
      clear hHeld hzw
      refine wpAnyH_take (i := 0) (oi := { dst := some 90, op := .move (.tmp 4), type := 30, pos := "laws.go:344", after := #[], guard := none }) (v := ?_) rfl (by kernel_rfl) (by kernel_rfl) (by kernel_rfl) (fun _ _ _ h => h) (Or.inl ⟨by rfl, ?_⟩) (by assumption) ?_
      rotate_left
      · intro w hSw
        (try dsimp only at hSw)
        first | (go_simp; done) | (go_simp; with_reducible rfl)
      (try simp only [Act.put, List.setIfInBounds_toArray, List.set_cons_zero, List.set_cons_succ])
      refine wpAnyH_take (i := 1) (oi := { dst := some 91, op := .move (.tmp 13), type := 3, pos := "laws.go:344", after := #[], guard := none }) (v := ?_) rfl (by kernel_rfl) (by kernel_rfl) (by kernel_rfl) (fun _ _ _ h => h) (Or.inl ⟨by rfl, ?_⟩) (by assumption) ?_
      rotate_left
      · intro w hSw
        (try dsimp only at hSw)
        first | (go_simp; done) | (go_simp; with_reducible rfl)
      (try simp only [Act.put, List.setIfInBounds_toArray, List.set_cons_zero, List.set_cons_succ])
      refine wpAnyH_take (i := 2) (oi := { dst := some 92, op := .indexAddr 30 (.tmp 90) (.tmp 91), type := 0, pos := "laws.go:344", after := #[⟨0, .data⟩, ⟨1, .data⟩], guard := none }) (v := ?_) rfl (by kernel_rfl) (by kernel_rfl) (by kernel_rfl) (fun _ _ _ h => h) (Or.inl ⟨by rfl, ?_⟩) (by assumption) ?_
      rotate_left
      · intro w hSw
        (try dsimp only at hSw)
        first | (go_simp; done) | (go_simp; with_reducible rfl)
      (try simp only [Act.put, List.setIfInBounds_toArray, List.set_cons_zero, List.set_cons_succ])
      refine wpAnyH_take (i := 3) (oi := { dst := some 93, op := .fieldAddr 33 (.tmp 92) 0, type := 0, pos := "laws.go:344", after := #[⟨2, .data⟩], guard := none }) (v := ?_) rfl (by kernel_rfl) (by kernel_rfl) (by kernel_rfl) (fun _ _ _ h => h) (Or.inl ⟨by rfl, ?_⟩) (by assumption) ?_
      rotate_left
      · intro w hSw
        (try dsimp only at hSw)
        first | (go_simp; done) | (go_simp; with_reducible rfl)
      (try simp only [Act.put, List.setIfInBounds_toArray, List.set_cons_zero, List.set_cons_succ])
      refine wpAnyH_take (i := 4) (oi := { dst := some 94, op := .load 9 (.tmp 93), type := 9, pos := "laws.go:344", after := #[⟨3, .data⟩], guard := none }) (v := ?_) rfl (by kernel_rfl) (by kernel_rfl) (by kernel_rfl) (fun _ _ _ h => h) (Or.inl ⟨by rfl, ?_⟩) (by assumption) ?_
      rotate_left
      · intro w hSw
        (try dsimp only at hSw)
        first | (go_simp; done) | (go_simp; with_reducible rfl)
      (try simp only [Act.put, List.setIfInBounds_toArray, List.set_cons_zero, List.set_cons_succ])
      refine wpAnyH_take (i := 5) (oi := { dst := some 95, op := .move (.tmp 12), type := 34, pos := "laws.go:344", after := #[], guard := none }) (v := ?_) rfl (by kernel_rfl) (by kernel_rfl) (by kernel_rfl) (fun _ _ _ h => h) (Or.inl ⟨by rfl, ?_⟩) (by assumption) ?_
      rotate_left
      · intro w hSw
        (try dsimp only at hSw)
        first | (go_simp; done) | (go_simp; with_reducible rfl)
      (try simp only [Act.put, List.setIfInBounds_toArray, List.set_cons_zero, List.set_cons_succ])
      refine wpAnyH_take (i := 6) (oi := { dst := some 96, op := .move (.tmp 13), type := 3, pos := "laws.go:344", after := #[], guard := none }) (v := ?_) rfl (by kernel_rfl) (by kernel_rfl) (by kernel_rfl) (fun _ _ _ h => h) (Or.inl ⟨by rfl, ?_⟩) (by assumption) ?_
      rotate_left
      · intro w hSw
        (try dsimp only at hSw)
        first | (go_simp; done) | (go_simp; with_reducible rfl)
      (try simp only [Act.put, List.setIfInBounds_toArray, List.set_cons_zero, List.set_cons_succ])
      refine wpAnyH_take (i := 7) (oi := { dst := some 97, op := .indexAddr 34 (.tmp 95) (.tmp 96), type := 0, pos := "laws.go:344", after := #[⟨5, .data⟩, ⟨6, .data⟩], guard := none }) (v := ?_) rfl (by kernel_rfl) (by kernel_rfl) (by kernel_rfl) (fun _ _ _ h => h) (Or.inl ⟨by rfl, ?_⟩) (by assumption) ?_
      rotate_left
      · intro w hSw
        (try dsimp only at hSw)
        first | (go_simp; done) | (go_simp; with_reducible rfl)
      (try simp only [Act.put, List.setIfInBounds_toArray, List.set_cons_zero, List.set_cons_succ])
      refine wpAnyH_take (i := 8) (oi := { dst := some 98, op := .load 9 (.tmp 97), type := 9, pos := "laws.go:344", after := #[⟨7, .data⟩], guard := none }) (v := ?_) rfl (by kernel_rfl) (by kernel_rfl) (by kernel_rfl) (fun _ _ _ h => h) (Or.inl ⟨by rfl, ?_⟩) (by assumption) ?_
      rotate_left
      · intro w hSw
        (try dsimp only at hSw)
        first | (go_simp; done) | (go_simp; with_reducible rfl)
      (try simp only [Act.put, List.setIfInBounds_toArray, List.set_cons_zero, List.set_cons_succ])
      refine wpAnyH_take (i := 9) (oi := { dst := some 99, op := .binOp .neq 9 (.tmp 94) (.tmp 98) 9, type := 4, pos := "laws.go:344", after := #[⟨4, .data⟩, ⟨8, .data⟩], guard := none }) (v := ?_) rfl (by kernel_rfl) (by kernel_rfl) (by kernel_rfl) (fun _ _ _ h => h) (Or.inl ⟨by rfl, ?_⟩) (by assumption) ?_
      rotate_left
      · intro w hSw
        (try dsimp only at hSw)
        first | (go_simp; done) | (go_simp; with_reducible rfl)
      (try simp only [Act.put, List.setIfInBounds_toArray, List.set_cons_zero, List.set_cons_succ])
      refine wpAnyH_take (i := 10) (oi := { dst := some 100, op := .move (.tmp 99), type := 4, pos := "laws.go:344", after := #[⟨9, .data⟩], guard := none }) (v := ?_) rfl (by kernel_rfl) (by kernel_rfl) (by kernel_rfl) (fun _ _ _ h => h) (Or.inl ⟨by rfl, ?_⟩) (by assumption) ?_
      rotate_left
      · intro w hSw
        (try dsimp only at hSw)
        first | (go_simp; done) | (go_simp; with_reducible rfl)
      (try simp only [Act.put, List.setIfInBounds_toArray, List.set_cons_zero, List.set_cons_succ])
      refine wpAnyH_take (i := 11) (oi := { dst := some 101, op := .move (.tmp 13), type := 3, pos := "laws.go:344", after := #[⟨10, .guard⟩], guard := some (10, false) }) (v := ?_) rfl (by kernel_rfl) (by kernel_rfl) (by kernel_rfl) (fun _ _ _ h => h) (Or.inl ⟨by rfl, ?_⟩) (by assumption) ?_
      rotate_left
      · intro w hSw
        (try dsimp only at hSw)
        first | (go_simp; done) | (go_simp; with_reducible rfl)
      (try simp only [Act.put, List.setIfInBounds_toArray, List.set_cons_zero, List.set_cons_succ])
      refine wpAnyH_take (i := 12) (oi := { dst := some 102, op := .binOp .gtr 3 (.tmp 101) (.const (Value.int IntKind.i64 0)) 3, type := 4, pos := "laws.go:344", after := #[⟨11, .data⟩, ⟨10, .guard⟩], guard := some (10, false) }) (v := ?_) rfl (by kernel_rfl) (by kernel_rfl) (by kernel_rfl) (fun _ _ _ h => h) (Or.inl ⟨by rfl, ?_⟩) (by assumption) ?_
      rotate_left
      · intro w hSw
        (try dsimp only at hSw)
        first | (go_simp; done) | (go_simp; with_reducible rfl)
      (try simp only [Act.put, List.setIfInBounds_toArray, List.set_cons_zero, List.set_cons_succ])
      refine wpAnyH_take (i := 13) (oi := { dst := some 103, op := .move (.tmp 102), type := 4, pos := "laws.go:344", after := #[⟨12, .data⟩, ⟨10, .chain⟩, ⟨10, .guard⟩], guard := some (10, false) }) (v := ?_) rfl (by kernel_rfl) (by kernel_rfl) (by kernel_rfl) (fun _ _ _ h => h) (Or.inl ⟨by rfl, ?_⟩) (by assumption) ?_
      rotate_left
      · intro w hSw
        (try dsimp only at hSw)
        first | (go_simp; done) | (go_simp; with_reducible rfl)
      (try simp only [Act.put, List.setIfInBounds_toArray, List.set_cons_zero, List.set_cons_succ])
      refine wpAnyH_take (i := 14) (oi := { dst := some 104, op := .move (.tmp 12), type := 34, pos := "laws.go:344", after := #[⟨13, .guard⟩], guard := some (13, true) }) (v := undef) rfl (by kernel_rfl) (by kernel_rfl) (by kernel_rfl) (fun _ _ _ h => h) (Or.inr ⟨by rfl, rfl⟩) (by assumption) ?_
      (try simp only [Act.put, List.setIfInBounds_toArray, List.set_cons_zero, List.set_cons_succ])
      refine wpAnyH_take (i := 15) (oi := { dst := some 105, op := .move (.tmp 13), type := 3, pos := "laws.go:344", after := #[⟨13, .guard⟩], guard := some (13, true) }) (v := undef) rfl (by kernel_rfl) (by kernel_rfl) (by kernel_rfl) (fun _ _ _ h => h) (Or.inr ⟨by rfl, rfl⟩) (by assumption) ?_
      (try simp only [Act.put, List.setIfInBounds_toArray, List.set_cons_zero, List.set_cons_succ])
      refine wpAnyH_take (i := 16) (oi := { dst := some 106, op := .binOp .sub 3 (.tmp 105) (.const (Value.int IntKind.i64 1)) 3, type := 3, pos := "laws.go:344", after := #[⟨15, .data⟩, ⟨13, .guard⟩], guard := some (13, true) }) (v := undef) rfl (by kernel_rfl) (by kernel_rfl) (by kernel_rfl) (fun _ _ _ h => h) (Or.inr ⟨by rfl, rfl⟩) (by assumption) ?_
      (try simp only [Act.put, List.setIfInBounds_toArray, List.set_cons_zero, List.set_cons_succ])
      refine wpAnyH_take (i := 17) (oi := { dst := some 107, op := .indexAddr 34 (.tmp 104) (.tmp 106), type := 0, pos := "laws.go:344", after := #[⟨14, .data⟩, ⟨16, .data⟩, ⟨13, .guard⟩], guard := some (13, true) }) (v := undef) rfl (by kernel_rfl) (by kernel_rfl) (by kernel_rfl) (fun _ _ _ h => h) (Or.inr ⟨by rfl, rfl⟩) (by assumption) ?_
      (try simp only [Act.put, List.setIfInBounds_toArray, List.set_cons_zero, List.set_cons_succ])
      refine wpAnyH_take (i := 18) (oi := { dst := some 108, op := .load 9 (.tmp 107), type := 9, pos := "laws.go:344", after := #[⟨17, .data⟩, ⟨13, .guard⟩], guard := some (13, true) }) (v := undef) rfl (by kernel_rfl) (by kernel_rfl) (by kernel_rfl) (fun _ _ _ h => h) (Or.inr ⟨by rfl, rfl⟩) (by assumption) ?_
      (try simp only [Act.put, List.setIfInBounds_toArray, List.set_cons_zero, List.set_cons_succ])
      refine wpAnyH_take (i := 19) (oi := { dst := some 109, op := .move (.tmp 12), type := 34, pos := "laws.go:344", after := #[⟨13, .guard⟩], guard := some (13, true) }) (v := undef) rfl (by kernel_rfl) (by kernel_rfl) (by kernel_rfl) (fun _ _ _ h => h) (Or.inr ⟨by rfl, rfl⟩) (by assumption) ?_
      (try simp only [Act.put, List.setIfInBounds_toArray, List.set_cons_zero, List.set_cons_succ])
      refine wpAnyH_take (i := 20) (oi := { dst := some 110, op := .move (.tmp 13), type := 3, pos := "laws.go:344", after := #[⟨13, .guard⟩], guard := some (13, true) }) (v := undef) rfl (by kernel_rfl) (by kernel_rfl) (by kernel_rfl) (fun _ _ _ h => h) (Or.inr ⟨by rfl, rfl⟩) (by assumption) ?_
      (try simp only [Act.put, List.setIfInBounds_toArray, List.set_cons_zero, List.set_cons_succ])
      refine wpAnyH_take (i := 21) (oi := { dst := some 111, op := .indexAddr 34 (.tmp 109) (.tmp 110), type := 0, pos := "laws.go:344", after := #[⟨19, .data⟩, ⟨20, .data⟩, ⟨13, .guard⟩], guard := some (13, true) }) (v := undef) rfl (by kernel_rfl) (by kernel_rfl) (by kernel_rfl) (fun _ _ _ h => h) (Or.inr ⟨by rfl, rfl⟩) (by assumption) ?_
      (try simp only [Act.put, List.setIfInBounds_toArray, List.set_cons_zero, List.set_cons_succ])
      refine wpAnyH_take (i := 22) (oi := { dst := some 112, op := .load 9 (.tmp 111), type := 9, pos := "laws.go:344", after := #[⟨21, .data⟩, ⟨13, .guard⟩], guard := some (13, true) }) (v := undef) rfl (by kernel_rfl) (by kernel_rfl) (by kernel_rfl) (fun _ _ _ h => h) (Or.inr ⟨by rfl, rfl⟩) (by assumption) ?_
      (try simp only [Act.put, List.setIfInBounds_toArray, List.set_cons_zero, List.set_cons_succ])
      refine wpAnyH_take (i := 23) (oi := { dst := some 113, op := .binOp .geq 9 (.tmp 108) (.tmp 112) 9, type := 4, pos := "laws.go:344", after := #[⟨18, .data⟩, ⟨22, .data⟩, ⟨13, .guard⟩], guard := some (13, true) }) (v := undef) rfl (by kernel_rfl) (by kernel_rfl) (by kernel_rfl) (fun _ _ _ h => h) (Or.inr ⟨by rfl, rfl⟩) (by assumption) ?_
      (try simp only [Act.put, List.setIfInBounds_toArray, List.set_cons_zero, List.set_cons_succ])
      refine wpAnyH_take (i := 24) (oi := { dst := some 114, op := .pick (.tmp 103) (.tmp 113) (.const (Value.bool false)), type := 4, pos := "laws.go:344", after := #[⟨13, .data⟩, ⟨23, .data⟩, ⟨10, .guard⟩], guard := some (10, false) }) (v := ?_) rfl (by kernel_rfl) (by kernel_rfl) (by kernel_rfl) (fun _ _ _ h => h) (Or.inl ⟨by rfl, ?_⟩) (by assumption) ?_
      rotate_left
      · intro w hSw
        (try dsimp only at hSw)
        first | (go_simp; done) | (go_simp; with_reducible rfl)
      (try simp only [Act.put, List.setIfInBounds_toArray, List.set_cons_zero, List.set_cons_succ])
      refine wpAnyH_take (i := 25) (oi := { dst := some 115, op := .pick (.tmp 100) (.const (Value.bool true)) (.tmp 114), type := 4, pos := "laws.go:344", after := #[⟨10, .data⟩, ⟨24, .data⟩], guard := none }) (v := ?_) rfl (by kernel_rfl) (by kernel_rfl) (by kernel_rfl) (fun _ _ _ h => h) (Or.inl ⟨by rfl, ?_⟩) (by assumption) ?_
      rotate_left
      · intro w hSw
        (try dsimp only at hSw)
        first | (go_simp; done) | (go_simp; with_reducible rfl)
      (try simp only [Act.put, List.setIfInBounds_toArray, List.set_cons_zero, List.set_cons_succ])
      refine wpAnyH_take (i := 26) (oi := { dst := some 116, op := .move (.tmp 115), type := 4, pos := "laws.go:344", after := #[⟨25, .data⟩, ⟨13, .chain⟩], guard := none }) (v := ?_) rfl (by kernel_rfl) (by kernel_rfl) (by kernel_rfl) (fun _ _ _ h => h) (Or.inl ⟨by rfl, ?_⟩) (by assumption) ?_
      rotate_left
      · intro w hSw
        (try dsimp only at hSw)
        first | (go_simp; done) | (go_simp; with_reducible rfl)
      (try simp only [Act.put, List.setIfInBounds_toArray, List.set_cons_zero, List.set_cons_succ])
      refine wpAnyH_take (i := 27) (oi := { dst := some 117, op := .load 27 (.tmp 3), type := 27, pos := "laws.go:344", after := #[⟨26, .guard⟩], guard := some (26, false) }) (v := ?_) rfl (by kernel_rfl) (by kernel_rfl) (by kernel_rfl) (fun _ _ _ h => h) (Or.inl ⟨by rfl, ?_⟩) (by assumption) ?_
      rotate_left
      · intro w hSw
        (try dsimp only at hSw)
        first | (go_simp; done) | (go_simp; with_reducible rfl)
      (try simp only [Act.put, List.setIfInBounds_toArray, List.set_cons_zero, List.set_cons_succ])
      refine wpAnyH_take (i := 28) (oi := { dst := some 118, op := .move (.tmp 12), type := 34, pos := "laws.go:344", after := #[⟨26, .guard⟩], guard := some (26, false) }) (v := ?_) rfl (by kernel_rfl) (by kernel_rfl) (by kernel_rfl) (fun _ _ _ h => h) (Or.inl ⟨by rfl, ?_⟩) (by assumption) ?_
      rotate_left
      · intro w hSw
        (try dsimp only at hSw)
        first | (go_simp; done) | (go_simp; with_reducible rfl)
      (try simp only [Act.put, List.setIfInBounds_toArray, List.set_cons_zero, List.set_cons_succ])
      refine wpAnyH_take (i := 29) (oi := { dst := some 119, op := .move (.tmp 13), type := 3, pos := "laws.go:344", after := #[⟨26, .guard⟩], guard := some (26, false) }) (v := ?_) rfl (by kernel_rfl) (by kernel_rfl) (by kernel_rfl) (fun _ _ _ h => h) (Or.inl ⟨by rfl, ?_⟩) (by assumption) ?_
      rotate_left
      · intro w hSw
        (try dsimp only at hSw)
        first | (go_simp; done) | (go_simp; with_reducible rfl)
      (try simp only [Act.put, List.setIfInBounds_toArray, List.set_cons_zero, List.set_cons_succ])
      refine wpAnyH_take (i := 30) (oi := { dst := some 120, op := .indexAddr 34 (.tmp 118) (.tmp 119), type := 0, pos := "laws.go:344", after := #[⟨28, .data⟩, ⟨29, .data⟩, ⟨26, .guard⟩], guard := some (26, false) }) (v := ?_) rfl (by kernel_rfl) (by kernel_rfl) (by kernel_rfl) (fun _ _ _ h => h) (Or.inl ⟨by rfl, ?_⟩) (by assumption) ?_
      rotate_left
      · intro w hSw
        (try dsimp only at hSw)
        first | (go_simp; done) | (go_simp; with_reducible rfl)
      (try simp only [Act.put, List.setIfInBounds_toArray, List.set_cons_zero, List.set_cons_succ])
      refine wpAnyH_take (i := 31) (oi := { dst := some 121, op := .load 9 (.tmp 120), type := 9, pos := "laws.go:344", after := #[⟨30, .data⟩, ⟨26, .guard⟩], guard := some (26, false) }) (v := ?_) rfl (by kernel_rfl) (by kernel_rfl) (by kernel_rfl) (fun _ _ _ h => h) (Or.inl ⟨by rfl, ?_⟩) (by assumption) ?_
      rotate_left
      · intro w hSw
        (try dsimp only at hSw)
        first | (go_simp; done) | (go_simp; with_reducible rfl)
      (try simp only [Act.put, List.setIfInBounds_toArray, List.set_cons_zero, List.set_cons_succ])
      refine wpAnyH_ready (rs := [32]) (by kernel_rfl) (by simp) ?_
      refine AllReadyH.cons (o := { dst := some 122, op := .call { callee := .value (.func 17), args := #[.tmp 117, .tmp 121], argTypes := #[27, 9] }, type := 2, pos := "laws.go:344", after := #[⟨27, .data⟩, ⟨31, .data⟩, ⟨26, .chain⟩, ⟨26, .guard⟩], guard := some (26, false) }) rfl (fun K hK => ?_) AllReadyH.nil
      go_simp
      go_at_call 17
      refine (implLevel w25 w25.heap.size ava aoa 4 avc l.length aoc xs l y (HVA25.out.more (by omega)) (HOA25.out.more (by omega)) (Nat.le_refl _) (by omega) HCa.out.1 ⟨by omega, HCa.out.2.1⟩).mono ?_
      rintro e w26 ⟨rfl, hb⟩
      rw [HLv.out]
      have HDa26 := Lib.hid ((hb.cell (p := ⟨lb, lo + q * 3, none⟩) (by show lb < _; omega)).trans HDa25.out)
      have HDb26 := Lib.hid ((hb.cell (p := ⟨lb, lo + q * 3 + 1, none⟩) (by show lb < _; omega)).trans HDb25.out)
      have HDc26 := Lib.hid ((hb.cell (p := ⟨lb, lo + q * 3 + 2, none⟩) (by show lb < _; omega)).trans HDc25.out)
      have HDn26 := Lib.hid ((hb.cell (p := ⟨nb, no + q, none⟩) (by show nb < _; omega)).trans HDn25.out)
      have HL26 := Lib.hid (HL25.out.below hb (by omega))
      have HS26 := Lib.hid (HS25.out.below hb (by omega))
      have hs26 := hb.size
      have HVA26 := Lib.hid (HVA25.out.below hb (by omega))
      have HOA26 := Lib.hid (HOA25.out.below hb (by omega))
      have HB26 := Lib.hid (HB25.out.trans (hb.mono (by omega)))
      have HXa26 := Lib.hid ((hb.block _ (lt_of_row HXa25.out)).trans HXa25.out)
      have HBk26 := Lib.hid (HBk25.out.trans (hb.mono (by omega)))
      clear hb HVA25 HOA25 HB25 HXa25 HBk25
      clear HL25 HS25
      clear HDa25 HDb25 HDc25 HDn25
      have hS2 : w26.cell? ⟨w0.heap.size, 0, none⟩ = some (.slice ava 4 avc) ∧ w26.cell? ⟨w0.heap.size, 1, none⟩ = some (.slice aoa l.length aoc) ∧ w26.cell? ⟨lb, lo + q * 3, none⟩ = some (.string y) ∧ w26.cell? ⟨lb, lo + q * 3 + 1, none⟩ = some (.int .i64 qv) ∧ w26.cell? ⟨lb, lo + q * 3 + 2, none⟩ = some (.bool sv) ∧ w26.cell? ⟨nb, no + q, none⟩ = some (.string y) := ⟨(pair_cells HXa26.out).1, (pair_cells HXa26.out).2, HDa26.out, HDb26.out, HDc26.out, HDn26.out⟩
      refine hK.out _ _ hS2 (fun hHeld3 => ?_)
      clear hK K
      (try simp only [Act.put, List.setIfInBounds_toArray, List.set_cons_zero, List.set_cons_succ])
      clear hHeld3
      refine wpAnyH_take (i := 33) (oi := { dst := some 123, op := .binOp .rem 2 (.tmp 122) (.const (Value.int IntKind.i64 2)) 2, type := 2, pos := "laws.go:344", after := #[⟨32, .data⟩, ⟨26, .guard⟩], guard := some (26, false) }) (v := ?_) rfl (by kernel_rfl) (by kernel_rfl) (by kernel_rfl) (fun _ _ _ h => h) (Or.inl ⟨by rfl, ?_⟩) (by assumption) ?_
      rotate_left
      · intro w hSw
        (try dsimp only at hSw)
        first | (go_simp; done) | (go_simp; with_reducible rfl)
      (try simp only [Act.put, List.setIfInBounds_toArray, List.set_cons_zero, List.set_cons_succ])
      refine wpAnyH_take (i := 34) (oi := { dst := some 124, op := .binOp .neq 2 (.tmp 123) (.const (Value.int IntKind.i64 1)) 2, type := 4, pos := "laws.go:344", after := #[⟨33, .data⟩, ⟨26, .guard⟩], guard := some (26, false) }) (v := ?_) rfl (by kernel_rfl) (by kernel_rfl) (by kernel_rfl) (fun _ _ _ h => h) (Or.inl ⟨by rfl, ?_⟩) (by assumption) ?_
      rotate_left
      · intro w hSw
        (try dsimp only at hSw)
        first | (go_simp; done) | (go_simp; with_reducible rfl)
      (try simp only [Act.put, List.setIfInBounds_toArray, List.set_cons_zero, List.set_cons_succ])
      refine wpAnyH_take (i := 35) (oi := { dst := some 125, op := .pick (.tmp 116) (.const (Value.bool true)) (.tmp 124), type := 4, pos := "laws.go:344", after := #[⟨26, .data⟩, ⟨34, .data⟩], guard := none }) (v := ?_) rfl (by kernel_rfl) (by kernel_rfl) (by kernel_rfl) (fun _ _ _ h => h) (Or.inl ⟨by rfl, ?_⟩) (by assumption) ?_
      rotate_left
      · intro w hSw
        (try dsimp only at hSw)
        first | (go_simp; done) | (go_simp; with_reducible rfl)
      (try simp only [Act.put, List.setIfInBounds_toArray, List.set_cons_zero, List.set_cons_succ])
      refine wpAnyH_take (i := 36) (oi := { dst := some 126, op := .move (.tmp 125), type := 4, pos := "laws.go:344", after := #[⟨35, .data⟩, ⟨32, .chain⟩], guard := none }) (v := ?_) rfl (by kernel_rfl) (by kernel_rfl) (by kernel_rfl) (fun _ _ _ h => h) (Or.inl ⟨by rfl, ?_⟩) (by assumption) ?_
      rotate_left
      · intro w hSw
        (try dsimp only at hSw)
        first | (go_simp; done) | (go_simp; with_reducible rfl)
      (try simp only [Act.put, List.setIfInBounds_toArray, List.set_cons_zero, List.set_cons_succ])
      refine wpAnyH_take (i := 37) (oi := { dst := some 127, op := .move (.tmp 4), type := 30, pos := "laws.go:344", after := #[⟨36, .guard⟩], guard := some (36, false) }) (v := ?_) rfl (by kernel_rfl) (by kernel_rfl) (by kernel_rfl) (fun _ _ _ h => h) (Or.inl ⟨by rfl, ?_⟩) (by assumption) ?_
      rotate_left
      · intro w hSw
        (try dsimp only at hSw)
        first | (go_simp; done) | (go_simp; with_reducible rfl)
      (try simp only [Act.put, List.setIfInBounds_toArray, List.set_cons_zero, List.set_cons_succ])
      refine wpAnyH_take (i := 38) (oi := { dst := some 128, op := .move (.tmp 13), type := 3, pos := "laws.go:344", after := #[⟨36, .guard⟩], guard := some (36, false) }) (v := ?_) rfl (by kernel_rfl) (by kernel_rfl) (by kernel_rfl) (fun _ _ _ h => h) (Or.inl ⟨by rfl, ?_⟩) (by assumption) ?_
      rotate_left
      · intro w hSw
        (try dsimp only at hSw)
        first | (go_simp; done) | (go_simp; with_reducible rfl)
      (try simp only [Act.put, List.setIfInBounds_toArray, List.set_cons_zero, List.set_cons_succ])
      refine wpAnyH_take (i := 39) (oi := { dst := some 129, op := .indexAddr 30 (.tmp 127) (.tmp 128), type := 0, pos := "laws.go:344", after := #[⟨37, .data⟩, ⟨38, .data⟩, ⟨36, .guard⟩], guard := some (36, false) }) (v := ?_) rfl (by kernel_rfl) (by kernel_rfl) (by kernel_rfl) (fun _ _ _ h => h) (Or.inl ⟨by rfl, ?_⟩) (by assumption) ?_
      rotate_left
      · intro w hSw
        (try dsimp only at hSw)
        first | (go_simp; done) | (go_simp; with_reducible rfl)
      (try simp only [Act.put, List.setIfInBounds_toArray, List.set_cons_zero, List.set_cons_succ])
      refine wpAnyH_take (i := 40) (oi := { dst := some 130, op := .fieldAddr 33 (.tmp 129) 1, type := 0, pos := "laws.go:344", after := #[⟨39, .data⟩, ⟨36, .guard⟩], guard := some (36, false) }) (v := ?_) rfl (by kernel_rfl) (by kernel_rfl) (by kernel_rfl) (fun _ _ _ h => h) (Or.inl ⟨by rfl, ?_⟩) (by assumption) ?_
      rotate_left
      · intro w hSw
        (try dsimp only at hSw)
        first | (go_simp; done) | (go_simp; with_reducible rfl)
      (try simp only [Act.put, List.setIfInBounds_toArray, List.set_cons_zero, List.set_cons_succ])
      refine wpAnyH_take (i := 41) (oi := { dst := some 131, op := .load 2 (.tmp 130), type := 2, pos := "laws.go:344", after := #[⟨40, .data⟩, ⟨36, .guard⟩], guard := some (36, false) }) (v := ?_) rfl (by kernel_rfl) (by kernel_rfl) (by kernel_rfl) (fun _ _ _ h => h) (Or.inl ⟨by rfl, ?_⟩) (by assumption) ?_
      rotate_left
      · intro w hSw
        (try dsimp only at hSw)
        first | (go_simp; done) | (go_simp; with_reducible rfl)
      (try simp only [Act.put, List.setIfInBounds_toArray, List.set_cons_zero, List.set_cons_succ])
      refine wpAnyH_take (i := 42) (oi := { dst := some 132, op := .binOp .lss 2 (.tmp 131) (.const (Value.int IntKind.i64 1)) 2, type := 4, pos := "laws.go:344", after := #[⟨41, .data⟩, ⟨36, .guard⟩], guard := some (36, false) }) (v := ?_) rfl (by kernel_rfl) (by kernel_rfl) (by kernel_rfl) (fun _ _ _ h => h) (Or.inl ⟨by rfl, ?_⟩) (by assumption) ?_
      rotate_left
      · intro w hSw
        (try dsimp only at hSw)
        first | (go_simp; done) | (go_simp; with_reducible rfl)
      (try simp only [Act.put, List.setIfInBounds_toArray, List.set_cons_zero, List.set_cons_succ])
      refine wpAnyH_take (i := 43) (oi := { dst := some 133, op := .pick (.tmp 126) (.const (Value.bool true)) (.tmp 132), type := 4, pos := "laws.go:344", after := #[⟨36, .data⟩, ⟨42, .data⟩], guard := none }) (v := ?_) rfl (by kernel_rfl) (by kernel_rfl) (by kernel_rfl) (fun _ _ _ h => h) (Or.inl ⟨by rfl, ?_⟩) (by assumption) ?_
      rotate_left
      · intro w hSw
        (try dsimp only at hSw)
        first | (go_simp; done) | (go_simp; with_reducible rfl)
      (try simp only [Act.put, List.setIfInBounds_toArray, List.set_cons_zero, List.set_cons_succ])
      refine wpAnyH_take (i := 44) (oi := { dst := some 134, op := .move (.tmp 133), type := 4, pos := "laws.go:344", after := #[⟨43, .data⟩, ⟨36, .chain⟩], guard := none }) (v := ?_) rfl (by kernel_rfl) (by kernel_rfl) (by kernel_rfl) (fun _ _ _ h => h) (Or.inl ⟨by rfl, ?_⟩) (by assumption) ?_
      rotate_left
      · intro w hSw
        (try dsimp only at hSw)
        first | (go_simp; done) | (go_simp; with_reducible rfl)
      (try simp only [Act.put, List.setIfInBounds_toArray, List.set_cons_zero, List.set_cons_succ])
      refine wpAnyH_take (i := 45) (oi := { dst := some 135, op := .move (.tmp 4), type := 30, pos := "laws.go:344", after := #[⟨44, .guard⟩], guard := some (44, false) }) (v := ?_) rfl (by kernel_rfl) (by kernel_rfl) (by kernel_rfl) (fun _ _ _ h => h) (Or.inl ⟨by rfl, ?_⟩) (by assumption) ?_
      rotate_left
      · intro w hSw
        (try dsimp only at hSw)
        first | (go_simp; done) | (go_simp; with_reducible rfl)
      (try simp only [Act.put, List.setIfInBounds_toArray, List.set_cons_zero, List.set_cons_succ])
      refine wpAnyH_take (i := 46) (oi := { dst := some 136, op := .move (.tmp 13), type := 3, pos := "laws.go:344", after := #[⟨44, .guard⟩], guard := some (44, false) }) (v := ?_) rfl (by kernel_rfl) (by kernel_rfl) (by kernel_rfl) (fun _ _ _ h => h) (Or.inl ⟨by rfl, ?_⟩) (by assumption) ?_
      rotate_left
      · intro w hSw
        (try dsimp only at hSw)
        first | (go_simp; done) | (go_simp; with_reducible rfl)
      (try simp only [Act.put, List.setIfInBounds_toArray, List.set_cons_zero, List.set_cons_succ])
      refine wpAnyH_take (i := 47) (oi := { dst := some 137, op := .indexAddr 30 (.tmp 135) (.tmp 136), type := 0, pos := "laws.go:344", after := #[⟨45, .data⟩, ⟨46, .data⟩, ⟨44, .guard⟩], guard := some (44, false) }) (v := ?_) rfl (by kernel_rfl) (by kernel_rfl) (by kernel_rfl) (fun _ _ _ h => h) (Or.inl ⟨by rfl, ?_⟩) (by assumption) ?_
      rotate_left
      · intro w hSw
        (try dsimp only at hSw)
        first | (go_simp; done) | (go_simp; with_reducible rfl)
      (try simp only [Act.put, List.setIfInBounds_toArray, List.set_cons_zero, List.set_cons_succ])
      refine wpAnyH_take (i := 48) (oi := { dst := some 138, op := .fieldAddr 33 (.tmp 137) 1, type := 0, pos := "laws.go:344", after := #[⟨47, .data⟩, ⟨44, .guard⟩], guard := some (44, false) }) (v := ?_) rfl (by kernel_rfl) (by kernel_rfl) (by kernel_rfl) (fun _ _ _ h => h) (Or.inl ⟨by rfl, ?_⟩) (by assumption) ?_
      rotate_left
      · intro w hSw
        (try dsimp only at hSw)
        first | (go_simp; done) | (go_simp; with_reducible rfl)
      (try simp only [Act.put, List.setIfInBounds_toArray, List.set_cons_zero, List.set_cons_succ])
      refine wpAnyH_take (i := 49) (oi := { dst := some 139, op := .load 2 (.tmp 138), type := 2, pos := "laws.go:344", after := #[⟨48, .data⟩, ⟨44, .guard⟩], guard := some (44, false) }) (v := ?_) rfl (by kernel_rfl) (by kernel_rfl) (by kernel_rfl) (fun _ _ _ h => h) (Or.inl ⟨by rfl, ?_⟩) (by assumption) ?_
      rotate_left
      · intro w hSw
        (try dsimp only at hSw)
        first | (go_simp; done) | (go_simp; with_reducible rfl)
      (try simp only [Act.put, List.setIfInBounds_toArray, List.set_cons_zero, List.set_cons_succ])
      refine wpAnyH_take (i := 50) (oi := { dst := some 140, op := .load 27 (.tmp 3), type := 27, pos := "laws.go:344", after := #[⟨44, .guard⟩], guard := some (44, false) }) (v := ?_) rfl (by kernel_rfl) (by kernel_rfl) (by kernel_rfl) (fun _ _ _ h => h) (Or.inl ⟨by rfl, ?_⟩) (by assumption) ?_
      rotate_left
      · intro w hSw
        (try dsimp only at hSw)
        first | (go_simp; done) | (go_simp; with_reducible rfl)
      (try simp only [Act.put, List.setIfInBounds_toArray, List.set_cons_zero, List.set_cons_succ])
      refine wpAnyH_take (i := 51) (oi := { dst := some 141, op := .move (.tmp 12), type := 34, pos := "laws.go:344", after := #[⟨44, .guard⟩], guard := some (44, false) }) (v := ?_) rfl (by kernel_rfl) (by kernel_rfl) (by kernel_rfl) (fun _ _ _ h => h) (Or.inl ⟨by rfl, ?_⟩) (by assumption) ?_
      rotate_left
      · intro w hSw
        (try dsimp only at hSw)
        first | (go_simp; done) | (go_simp; with_reducible rfl)
      (try simp only [Act.put, List.setIfInBounds_toArray, List.set_cons_zero, List.set_cons_succ])
      refine wpAnyH_take (i := 52) (oi := { dst := some 142, op := .move (.tmp 13), type := 3, pos := "laws.go:344", after := #[⟨44, .guard⟩], guard := some (44, false) }) (v := ?_) rfl (by kernel_rfl) (by kernel_rfl) (by kernel_rfl) (fun _ _ _ h => h) (Or.inl ⟨by rfl, ?_⟩) (by assumption) ?_
      rotate_left
      · intro w hSw
        (try dsimp only at hSw)
        first | (go_simp; done) | (go_simp; with_reducible rfl)
      (try simp only [Act.put, List.setIfInBounds_toArray, List.set_cons_zero, List.set_cons_succ])
      refine wpAnyH_take (i := 53) (oi := { dst := some 143, op := .indexAddr 34 (.tmp 141) (.tmp 142), type := 0, pos := "laws.go:344", after := #[⟨51, .data⟩, ⟨52, .data⟩, ⟨44, .guard⟩], guard := some (44, false) }) (v := ?_) rfl (by kernel_rfl) (by kernel_rfl) (by kernel_rfl) (fun _ _ _ h => h) (Or.inl ⟨by rfl, ?_⟩) (by assumption) ?_
      rotate_left
      · intro w hSw
        (try dsimp only at hSw)
        first | (go_simp; done) | (go_simp; with_reducible rfl)
      (try simp only [Act.put, List.setIfInBounds_toArray, List.set_cons_zero, List.set_cons_succ])
      refine wpAnyH_take (i := 54) (oi := { dst := some 144, op := .load 9 (.tmp 143), type := 9, pos := "laws.go:344", after := #[⟨53, .data⟩, ⟨44, .guard⟩], guard := some (44, false) }) (v := ?_) rfl (by kernel_rfl) (by kernel_rfl) (by kernel_rfl) (fun _ _ _ h => h) (Or.inl ⟨by rfl, ?_⟩) (by assumption) ?_
      rotate_left
      · intro w hSw
        (try dsimp only at hSw)
        first | (go_simp; done) | (go_simp; with_reducible rfl)
      (try simp only [Act.put, List.setIfInBounds_toArray, List.set_cons_zero, List.set_cons_succ])
      refine wpAnyH_ready (rs := [55]) (by kernel_rfl) (by simp) ?_
      refine AllReadyH.cons (o := { dst := some 145, op := .call { callee := .value (.func 18), args := #[.tmp 140, .tmp 144], argTypes := #[27, 9] }, type := 2, pos := "laws.go:344", after := #[⟨50, .data⟩, ⟨54, .data⟩, ⟨44, .chain⟩, ⟨44, .guard⟩], guard := some (44, false) }) rfl (fun K hK => ?_) AllReadyH.nil
      go_simp
      go_at_call 18
      refine (implQtyOf w26 w26.heap.size ava aoa 4 avc l.length aoc xs l y (HVA26.out.more (by omega)) (HOA26.out.more (by omega)) (Nat.le_refl _) (by omega) hys HCa.out.1 ⟨by omega, HCa.out.2.1⟩).mono ?_
      rintro e w27 ⟨rfl, hb⟩
      rw [HQv.out]
      have HDa27 := Lib.hid ((hb.cell (p := ⟨lb, lo + q * 3, none⟩) (by show lb < _; omega)).trans HDa26.out)
      have HDb27 := Lib.hid ((hb.cell (p := ⟨lb, lo + q * 3 + 1, none⟩) (by show lb < _; omega)).trans HDb26.out)
      have HDc27 := Lib.hid ((hb.cell (p := ⟨lb, lo + q * 3 + 2, none⟩) (by show lb < _; omega)).trans HDc26.out)
      have HDn27 := Lib.hid ((hb.cell (p := ⟨nb, no + q, none⟩) (by show nb < _; omega)).trans HDn26.out)
      have HL27 := Lib.hid (HL26.out.below hb (by omega))
      have HS27 := Lib.hid (HS26.out.below hb (by omega))
      have hs27 := hb.size
      have HVA27 := Lib.hid (HVA26.out.below hb (by omega))
      have HOA27 := Lib.hid (HOA26.out.below hb (by omega))
      have HB27 := Lib.hid (HB26.out.trans (hb.mono (by omega)))
      have HXa27 := Lib.hid ((hb.block _ (lt_of_row HXa26.out)).trans HXa26.out)
      have HBk27 := Lib.hid (HBk26.out.trans (hb.mono (by omega)))
      clear hb HVA26 HOA26 HB26 HXa26 HBk26
      clear HL26 HS26
      clear HDa26 HDb26 HDc26 HDn26
      have hS4 : w27.cell? ⟨w0.heap.size, 0, none⟩ = some (.slice ava 4 avc) ∧ w27.cell? ⟨w0.heap.size, 1, none⟩ = some (.slice aoa l.length aoc) ∧ w27.cell? ⟨lb, lo + q * 3, none⟩ = some (.string y) ∧ w27.cell? ⟨lb, lo + q * 3 + 1, none⟩ = some (.int .i64 qv) ∧ w27.cell? ⟨lb, lo + q * 3 + 2, none⟩ = some (.bool sv) ∧ w27.cell? ⟨nb, no + q, none⟩ = some (.string y) := ⟨(pair_cells HXa27.out).1, (pair_cells HXa27.out).2, HDa27.out, HDb27.out, HDc27.out, HDn27.out⟩
      refine hK.out _ _ hS4 (fun hHeld5 => ?_)
      clear hK K
      (try simp only [Act.put, List.setIfInBounds_toArray, List.set_cons_zero, List.set_cons_succ])
      clear hHeld5
      refine wpAnyH_take (i := 56) (oi := { dst := some 146, op := .binOp .neq 2 (.tmp 139) (.tmp 145) 2, type := 4, pos := "laws.go:344", after := #[⟨49, .data⟩, ⟨55, .data⟩, ⟨44, .guard⟩], guard := some (44, false) }) (v := ?_) rfl (by kernel_rfl) (by kernel_rfl) (by kernel_rfl) (fun _ _ _ h => h) (Or.inl ⟨by rfl, ?_⟩) (by assumption) ?_
      rotate_left
      · intro w hSw
        (try dsimp only at hSw)
        first | (go_simp; done) | (go_simp; with_reducible rfl)
      (try simp only [Act.put, List.setIfInBounds_toArray, List.set_cons_zero, List.set_cons_succ])
      refine wpAnyH_take (i := 57) (oi := { dst := some 147, op := .pick (.tmp 134) (.const (Value.bool true)) (.tmp 146), type := 4, pos := "laws.go:344", after := #[⟨44, .data⟩, ⟨56, .data⟩], guard := none }) (v := ?_) rfl (by kernel_rfl) (by kernel_rfl) (by kernel_rfl) (fun _ _ _ h => h) (Or.inl ⟨by rfl, ?_⟩) (by assumption) ?_
      rotate_left
      · intro w hSw
        (try dsimp only at hSw)
        first | (go_simp; done) | (go_simp; with_reducible rfl)
      (try simp only [Act.put, List.setIfInBounds_toArray, List.set_cons_zero, List.set_cons_succ])
      refine wpAnyH_take (i := 58) (oi := { dst := some 148, op := .move (.tmp 147), type := 4, pos := "laws.go:344", after := #[⟨57, .data⟩, ⟨55, .chain⟩], guard := none }) (v := ?_) rfl (by kernel_rfl) (by kernel_rfl) (by kernel_rfl) (fun _ _ _ h => h) (Or.inl ⟨by rfl, ?_⟩) (by assumption) ?_
      rotate_left
      · intro w hSw
        (try dsimp only at hSw)
        first | (go_simp; done) | (go_simp; with_reducible rfl)
      (try simp only [Act.put, List.setIfInBounds_toArray, List.set_cons_zero, List.set_cons_succ])
      refine wpAnyH_take (i := 59) (oi := { dst := some 149, op := .move (.tmp 4), type := 30, pos := "laws.go:344", after := #[⟨58, .guard⟩], guard := some (58, false) }) (v := ?_) rfl (by kernel_rfl) (by kernel_rfl) (by kernel_rfl) (fun _ _ _ h => h) (Or.inl ⟨by rfl, ?_⟩) (by assumption) ?_
      rotate_left
      · intro w hSw
        (try dsimp only at hSw)
        first | (go_simp; done) | (go_simp; with_reducible rfl)
      (try simp only [Act.put, List.setIfInBounds_toArray, List.set_cons_zero, List.set_cons_succ])
      refine wpAnyH_take (i := 60) (oi := { dst := some 150, op := .move (.tmp 13), type := 3, pos := "laws.go:344", after := #[⟨58, .guard⟩], guard := some (58, false) }) (v := ?_) rfl (by kernel_rfl) (by kernel_rfl) (by kernel_rfl) (fun _ _ _ h => h) (Or.inl ⟨by rfl, ?_⟩) (by assumption) ?_
      rotate_left
      · intro w hSw
        (try dsimp only at hSw)
        first | (go_simp; done) | (go_simp; with_reducible rfl)
      (try simp only [Act.put, List.setIfInBounds_toArray, List.set_cons_zero, List.set_cons_succ])
      refine wpAnyH_take (i := 61) (oi := { dst := some 151, op := .indexAddr 30 (.tmp 149) (.tmp 150), type := 0, pos := "laws.go:344", after := #[⟨59, .data⟩, ⟨60, .data⟩, ⟨58, .guard⟩], guard := some (58, false) }) (v := ?_) rfl (by kernel_rfl) (by kernel_rfl) (by kernel_rfl) (fun _ _ _ h => h) (Or.inl ⟨by rfl, ?_⟩) (by assumption) ?_
      rotate_left
      · intro w hSw
        (try dsimp only at hSw)
        first | (go_simp; done) | (go_simp; with_reducible rfl)
      (try simp only [Act.put, List.setIfInBounds_toArray, List.set_cons_zero, List.set_cons_succ])
      refine wpAnyH_take (i := 62) (oi := { dst := some 152, op := .fieldAddr 33 (.tmp 151) 2, type := 0, pos := "laws.go:344", after := #[⟨61, .data⟩, ⟨58, .guard⟩], guard := some (58, false) }) (v := ?_) rfl (by kernel_rfl) (by kernel_rfl) (by kernel_rfl) (fun _ _ _ h => h) (Or.inl ⟨by rfl, ?_⟩) (by assumption) ?_
      rotate_left
      · intro w hSw
        (try dsimp only at hSw)
        first | (go_simp; done) | (go_simp; with_reducible rfl)
      (try simp only [Act.put, List.setIfInBounds_toArray, List.set_cons_zero, List.set_cons_succ])
      refine wpAnyH_take (i := 63) (oi := { dst := some 153, op := .load 4 (.tmp 152), type := 4, pos := "laws.go:344", after := #[⟨62, .data⟩, ⟨58, .guard⟩], guard := some (58, false) }) (v := ?_) rfl (by kernel_rfl) (by kernel_rfl) (by kernel_rfl) (fun _ _ _ h => h) (Or.inl ⟨by rfl, ?_⟩) (by assumption) ?_
      rotate_left
      · intro w hSw
        (try dsimp only at hSw)
        first | (go_simp; done) | (go_simp; with_reducible rfl)
      (try simp only [Act.put, List.setIfInBounds_toArray, List.set_cons_zero, List.set_cons_succ])
      refine wpAnyH_take (i := 64) (oi := { dst := some 154, op := .load 27 (.tmp 3), type := 27, pos := "laws.go:344", after := #[⟨58, .guard⟩], guard := some (58, false) }) (v := ?_) rfl (by kernel_rfl) (by kernel_rfl) (by kernel_rfl) (fun _ _ _ h => h) (Or.inl ⟨by rfl, ?_⟩) (by assumption) ?_
      rotate_left
      · intro w hSw
        (try dsimp only at hSw)
        first | (go_simp; done) | (go_simp; with_reducible rfl)
      (try simp only [Act.put, List.setIfInBounds_toArray, List.set_cons_zero, List.set_cons_succ])
      refine wpAnyH_take (i := 65) (oi := { dst := some 155, op := .move (.tmp 12), type := 34, pos := "laws.go:344", after := #[⟨58, .guard⟩], guard := some (58, false) }) (v := ?_) rfl (by kernel_rfl) (by kernel_rfl) (by kernel_rfl) (fun _ _ _ h => h) (Or.inl ⟨by rfl, ?_⟩) (by assumption) ?_
      rotate_left
      · intro w hSw
        (try dsimp only at hSw)
        first | (go_simp; done) | (go_simp; with_reducible rfl)
      (try simp only [Act.put, List.setIfInBounds_toArray, List.set_cons_zero, List.set_cons_succ])
      refine wpAnyH_take (i := 66) (oi := { dst := some 156, op := .move (.tmp 13), type := 3, pos := "laws.go:344", after := #[⟨58, .guard⟩], guard := some (58, false) }) (v := ?_) rfl (by kernel_rfl) (by kernel_rfl) (by kernel_rfl) (fun _ _ _ h => h) (Or.inl ⟨by rfl, ?_⟩) (by assumption) ?_
      rotate_left
      · intro w hSw
        (try dsimp only at hSw)
        first | (go_simp; done) | (go_simp; with_reducible rfl)
      (try simp only [Act.put, List.setIfInBounds_toArray, List.set_cons_zero, List.set_cons_succ])
      refine wpAnyH_take (i := 67) (oi := { dst := some 157, op := .indexAddr 34 (.tmp 155) (.tmp 156), type := 0, pos := "laws.go:344", after := #[⟨65, .data⟩, ⟨66, .data⟩, ⟨58, .guard⟩], guard := some (58, false) }) (v := ?_) rfl (by kernel_rfl) (by kernel_rfl) (by kernel_rfl) (fun _ _ _ h => h) (Or.inl ⟨by rfl, ?_⟩) (by assumption) ?_
      rotate_left
      · intro w hSw
        (try dsimp only at hSw)
        first | (go_simp; done) | (go_simp; with_reducible rfl)
      (try simp only [Act.put, List.setIfInBounds_toArray, List.set_cons_zero, List.set_cons_succ])
      refine wpAnyH_take (i := 68) (oi := { dst := some 158, op := .load 9 (.tmp 157), type := 9, pos := "laws.go:344", after := #[⟨67, .data⟩, ⟨58, .guard⟩], guard := some (58, false) }) (v := ?_) rfl (by kernel_rfl) (by kernel_rfl) (by kernel_rfl) (fun _ _ _ h => h) (Or.inl ⟨by rfl, ?_⟩) (by assumption) ?_
      rotate_left
      · intro w hSw
        (try dsimp only at hSw)
        first | (go_simp; done) | (go_simp; with_reducible rfl)
      (try simp only [Act.put, List.setIfInBounds_toArray, List.set_cons_zero, List.set_cons_succ])
      refine wpAnyH_ready (rs := [69]) (by kernel_rfl) (by simp) ?_
      refine AllReadyH.cons (o := { dst := some 159, op := .call { callee := .value (.func 19), args := #[.tmp 154, .tmp 158], argTypes := #[27, 9] }, type := 4, pos := "laws.go:344", after := #[⟨64, .data⟩, ⟨68, .data⟩, ⟨58, .chain⟩, ⟨58, .guard⟩], guard := some (58, false) }) rfl (fun K hK => ?_) AllReadyH.nil
      go_simp
      go_at_call 19
      refine (implSavedOf w27 w27.heap.size ava aoa 4 avc l.length aoc xs l y (HVA27.out.more (by omega)) (HOA27.out.more (by omega)) (Nat.le_refl _) (by omega) hys HCa.out.1 ⟨by omega, HCa.out.2.1⟩).mono ?_
      rintro e w28 ⟨rfl, hb⟩
      rw [HSv.out]
      have HDa28 := Lib.hid ((hb.cell (p := ⟨lb, lo + q * 3, none⟩) (by show lb < _; omega)).trans HDa27.out)
      have HDb28 := Lib.hid ((hb.cell (p := ⟨lb, lo + q * 3 + 1, none⟩) (by show lb < _; omega)).trans HDb27.out)
      have HDc28 := Lib.hid ((hb.cell (p := ⟨lb, lo + q * 3 + 2, none⟩) (by show lb < _; omega)).trans HDc27.out)
      have HDn28 := Lib.hid ((hb.cell (p := ⟨nb, no + q, none⟩) (by show nb < _; omega)).trans HDn27.out)
      have HL28 := Lib.hid (HL27.out.below hb (by omega))
      have HS28 := Lib.hid (HS27.out.below hb (by omega))
      have hs28 := hb.size
      have HVA28 := Lib.hid (HVA27.out.below hb (by omega))
      have HOA28 := Lib.hid (HOA27.out.below hb (by omega))
      have HB28 := Lib.hid (HB27.out.trans (hb.mono (by omega)))
      have HXa28 := Lib.hid ((hb.block _ (lt_of_row HXa27.out)).trans HXa27.out)
      have HBk28 := Lib.hid (HBk27.out.trans (hb.mono (by omega)))
      clear hb HVA27 HOA27 HB27 HXa27 HBk27
      clear HL27 HS27
      clear HDa27 HDb27 HDc27 HDn27
      have hS6 : w28.cell? ⟨w0.heap.size, 0, none⟩ = some (.slice ava 4 avc) ∧ w28.cell? ⟨w0.heap.size, 1, none⟩ = some (.slice aoa l.length aoc) ∧ w28.cell? ⟨lb, lo + q * 3, none⟩ = some (.string y) ∧ w28.cell? ⟨lb, lo + q * 3 + 1, none⟩ = some (.int .i64 qv) ∧ w28.cell? ⟨lb, lo + q * 3 + 2, none⟩ = some (.bool sv) ∧ w28.cell? ⟨nb, no + q, none⟩ = some (.string y) := ⟨(pair_cells HXa28.out).1, (pair_cells HXa28.out).2, HDa28.out, HDb28.out, HDc28.out, HDn28.out⟩
      refine hK.out _ _ hS6 (fun hHeld7 => ?_)
      clear hK K
      (try simp only [Act.put, List.setIfInBounds_toArray, List.set_cons_zero, List.set_cons_succ])
      clear hHeld7
      refine wpAnyH_take (i := 70) (oi := { dst := some 160, op := .binOp .neq 4 (.tmp 153) (.tmp 159) 4, type := 4, pos := "laws.go:344", after := #[⟨63, .data⟩, ⟨69, .data⟩, ⟨58, .guard⟩], guard := some (58, false) }) (v := ?_) rfl (by kernel_rfl) (by kernel_rfl) (by kernel_rfl) (fun _ _ _ h => h) (Or.inl ⟨by rfl, ?_⟩) (by assumption) ?_
      rotate_left
      · intro w hSw
        (try dsimp only at hSw)
        first | (go_simp; done) | (go_simp; with_reducible rfl)
      (try simp only [Act.put, List.setIfInBounds_toArray, List.set_cons_zero, List.set_cons_succ])
      refine wpAnyH_take (i := 71) (oi := { dst := some 161, op := .pick (.tmp 148) (.const (Value.bool true)) (.tmp 160), type := 4, pos := "laws.go:344", after := #[⟨58, .data⟩, ⟨70, .data⟩], guard := none }) (v := ?_) rfl (by kernel_rfl) (by kernel_rfl) (by kernel_rfl) (fun _ _ _ h => h) (Or.inl ⟨by rfl, ?_⟩) (by assumption) ?_
      rotate_left
      · intro w hSw
        (try dsimp only at hSw)
        first | (go_simp; done) | (go_simp; with_reducible rfl)
      (try simp only [Act.put, List.setIfInBounds_toArray, List.set_cons_zero, List.set_cons_succ])
      refine wpAnyH_done (by kernel_rfl) ?_ _
      go_wp2
      go_roundw
      case rel => exact ⟨q + 1, by omega, by go_num, HBr.out.trans (HBk28.out.mono HBr.out.size)⟩
      case measure => simp [intOf]; omega
    · skip
      have hgt : ((0 : Int) < (q : Int)) := by omega
      have hgt2 : decide ((0 : Int) < (q : Int)) = true := decide_eq_true hgt
      have hgt3 : 0 < q := by omega
      have hgt4 : decide (0 < q) = true := decide_eq_true hgt3
      have hsb : IntKind.i64.wrap ((q : Int) - 1) = (p : Int) := by rw [IntWalk.i64_in _ (by omega)]; omega
      have hsb2 : (q : Int) - 1 = (p : Int) := by omega
      have hwp : IntKind.i64.wrap (p : Int) = (p : Int) := IntWalk.i64_in _ (by omega)
      have hp00 : 0 ≤ (p : Int) := by omega
      have hpn : p < N.length := by omega
      have hp0 : ¬ ((p : Int) < 0) := by omega
      have hpi : (p : Int) < (N.length : Int) := by omega
      obtain ⟨z, hz⟩ : ∃ z, N.getD p ⟨#[]⟩ = z := ⟨_, rfl⟩
      rw [hz] at hpc hpl
      have hbl : Op.bytesLess z.toList y.toList = true := (bytes_ltT z y).trans hpl
      have HDp24 := Lib.hid hpc
      clear hz hpc hpl h0
      go_wp2_with fail
      obtain ⟨w25, hzw⟩ : ∃ z, w24.drew = z := ⟨_, rfl⟩
      have hb : Below w24.heap.size w24 w25 := by rw [← hzw]; exact ⟨rfl, rfl, rfl, Nat.le_refl _, fun _ _ => rfl⟩
      have HDa25 := Lib.hid ((hb.cell (p := ⟨lb, lo + q * 3, none⟩) (by show lb < _; omega)).trans HDa24.out)
      have HDb25 := Lib.hid ((hb.cell (p := ⟨lb, lo + q * 3 + 1, none⟩) (by show lb < _; omega)).trans HDb24.out)
      have HDc25 := Lib.hid ((hb.cell (p := ⟨lb, lo + q * 3 + 2, none⟩) (by show lb < _; omega)).trans HDc24.out)
      have HDn25 := Lib.hid ((hb.cell (p := ⟨nb, no + q, none⟩) (by show nb < _; omega)).trans HDn24.out)
      have HDp25 := Lib.hid ((hb.cell (p := ⟨nb, no + p, none⟩) (by show nb < _; omega)).trans HDp24.out)
      have HL25 := Lib.hid (HL24.out.below hb (by omega))
      have HS25 := Lib.hid (HS24.out.below hb (by omega))
      have hs25 := hb.size
      have HVA25 := Lib.hid (HVA24.out.below hb (by omega))
      have HOA25 := Lib.hid (HOA24.out.below hb (by omega))
      have HB25 := Lib.hid (HB24.out.trans (hb.mono (by omega)))
      have HXa25 := Lib.hid ((hb.block _ (lt_of_row HXa24.out)).trans HXa24.out)
      have HBk25 := Lib.hid (HBk24.out.trans (hb.mono (by omega)))
      clear hb HVA24 HOA24 HB24 HXa24 HBk24
      clear HL24 HS24
      clear HDa24 HDb24 HDc24 HDn24 HDp24
      have hS : w25.cell? ⟨w0.heap.size, 0, none⟩ = some (.slice ava 4 avc) ∧ w25.cell? ⟨w0.heap.size, 1, none⟩ = some (.slice aoa l.length aoc) ∧ w25.cell? ⟨lb, lo + q * 3, none⟩ = some (.string y) ∧ w25.cell? ⟨lb, lo + q * 3 + 1, none⟩ = some (.int .i64 qv) ∧ w25.cell? ⟨lb, lo + q * 3 + 2, none⟩ = some (.bool sv) ∧ w25.cell? ⟨nb, no + q, none⟩ = some (.string y) ∧ w25.cell? ⟨nb, no + p, none⟩ = some (.string z) := ⟨(pair_cells HXa25.out).1, (pair_cells HXa25.out).2, HDa25.out, HDb25.out, HDc25.out, HDn25.out, HDp25.out⟩
      refine wp_region_held_drew (S := fun w' => w'.cell? ⟨w0.heap.size, 0, none⟩ = some (.slice ava 4 avc) ∧ w'.cell? ⟨w0.heap.size, 1, none⟩ = some (.slice aoa l.length aoc) ∧ w'.cell? ⟨lb, lo + q * 3, none⟩ = some (.string y) ∧ w'.cell? ⟨lb, lo + q * 3 + 1, none⟩ = some (.int .i64 qv) ∧ w'.cell? ⟨lb, lo + q * 3 + 2, none⟩ = some (.bool sv) ∧ w'.cell? ⟨nb, no + q, none⟩ = some (.string y) ∧ w'.cell? ⟨nb, no + p, none⟩ = some (.string z)) (by kernel_rfl) (by rw [hzw]; exact hS) (fun hHeld => ?_)
      rw [hzw]
      clear hHeld hzw
      refine wpAnyH_take (i := 0) (oi := { dst := some 90, op := .move (.tmp 4), type := 30, pos := "laws.go:344", after := #[], guard := none }) (v := ?_) rfl (by kernel_rfl) (by kernel_rfl) (by kernel_rfl) (fun _ _ _ h => h) (Or.inl ⟨by rfl, ?_⟩) (by assumption) ?_
      rotate_left
      · intro w hSw
        (try dsimp only at hSw)
        first | (go_simp; done) | (go_simp; with_reducible rfl)
      (try simp only [Act.put, List.setIfInBounds_toArray, List.set_cons_zero, List.set_cons_succ])
      refine wpAnyH_take (i := 1) (oi := { dst := some 91, op := .move (.tmp 13), type := 3, pos := "laws.go:344", after := #[], guard := none }) (v := ?_) rfl (by kernel_rfl) (by kernel_rfl) (by kernel_rfl) (fun _ _ _ h => h) (Or.inl ⟨by rfl, ?_⟩) (by assumption) ?_
      rotate_left
      · intro w hSw
        (try dsimp only at hSw)
        first | (go_simp; done) | (go_simp; with_reducible rfl)
      (try simp only [Act.put, List.setIfInBounds_toArray, List.set_cons_zero, List.set_cons_succ])
      refine wpAnyH_take (i := 2) (oi := { dst := some 92, op := .indexAddr 30 (.tmp 90) (.tmp 91), type := 0, pos := "laws.go:344", after := #[⟨0, .data⟩, ⟨1, .data⟩], guard := none }) (v := ?_) rfl (by kernel_rfl) (by kernel_rfl) (by kernel_rfl) (fun _ _ _ h => h) (Or.inl ⟨by rfl, ?_⟩) (by assumption) ?_
      rotate_left
      · intro w hSw
        (try dsimp only at hSw)
        first | (go_simp; done) | (go_simp; with_reducible rfl)
      (try simp only [Act.put, List.setIfInBounds_toArray, List.set_cons_zero, List.set_cons_succ])
      refine wpAnyH_take (i := 3) (oi := { dst := some 93, op := .fieldAddr 33 (.tmp 92) 0, type := 0, pos := "laws.go:344", after := #[⟨2, .data⟩], guard := none }) (v := ?_) rfl (by kernel_rfl) (by kernel_rfl) (by kernel_rfl) (fun _ _ _ h => h) (Or.inl ⟨by rfl, ?_⟩) (by assumption) ?_
      rotate_left
      · intro w hSw
        (try dsimp only at hSw)
        first | (go_simp; done) | (go_simp; with_reducible rfl)
      (try simp only [Act.put, List.setIfInBounds_toArray, List.set_cons_zero, List.set_cons_succ])
      refine wpAnyH_take (i := 4) (oi := { dst := some 94, op := .load 9 (.tmp 93), type := 9, pos := "laws.go:344", after := #[⟨3, .data⟩], guard := none }) (v := ?_) rfl (by kernel_rfl) (by kernel_rfl) (by kernel_rfl) (fun _ _ _ h => h) (Or.inl ⟨by rfl, ?_⟩) (by assumption) ?_
      rotate_left
      · intro w hSw
        (try dsimp only at hSw)
        first | (go_simp; done) | (go_simp; with_reducible rfl)
      (try simp only [Act.put, List.setIfInBounds_toArray, List.set_cons_zero, List.set_cons_succ])
      refine wpAnyH_take (i := 5) (oi := { dst := some 95, op := .move (.tmp 12), type := 34, pos := "laws.go:344", after := #[], guard := none }) (v := ?_) rfl (by kernel_rfl) (by kernel_rfl) (by kernel_rfl) (fun _ _ _ h => h) (Or.inl ⟨by rfl, ?_⟩) (by assumption) ?_
      rotate_left
      · intro w hSw
        (try dsimp only at hSw)
        first | (go_simp; done) | (go_simp; with_reducible rfl)
      (try simp only [Act.put, List.setIfInBounds_toArray, List.set_cons_zero, List.set_cons_succ])
      refine wpAnyH_take (i := 6) (oi := { dst := some 96, op := .move (.tmp 13), type := 3, pos := "laws.go:344", after := #[], guard := none }) (v := ?_) rfl (by kernel_rfl) (by kernel_rfl) (by kernel_rfl) (fun _ _ _ h => h) (Or.inl ⟨by rfl, ?_⟩) (by assumption) ?_
      rotate_left
      · intro w hSw
        (try dsimp only at hSw)
        first | (go_simp; done) | (go_simp; with_reducible rfl)
      (try simp only [Act.put, List.setIfInBounds_toArray, List.set_cons_zero, List.set_cons_succ])
      refine wpAnyH_take (i := 7) (oi := { dst := some 97, op := .indexAddr 34 (.tmp 95) (.tmp 96), type := 0, pos := "laws.go:344", after := #[⟨5, .data⟩, ⟨6, .data⟩], guard := none }) (v := ?_) rfl (by kernel_rfl) (by kernel_rfl) (by kernel_rfl) (fun _ _ _ h => h) (Or.inl ⟨by rfl, ?_⟩) (by assumption) ?_
      rotate_left
      · intro w hSw
        (try dsimp only at hSw)
        first | (go_simp; done) | (go_simp; with_reducible rfl)
      (try simp only [Act.put, List.setIfInBounds_toArray, List.set_cons_zero, List.set_cons_succ])
      refine wpAnyH_take (i := 8) (oi := { dst := some 98, op := .load 9 (.tmp 97), type := 9, pos := "laws.go:344", after := #[⟨7, .data⟩], guard := none }) (v := ?_) rfl (by kernel_rfl) (by kernel_rfl) (by kernel_rfl) (fun _ _ _ h => h) (Or.inl ⟨by rfl, ?_⟩) (by assumption) ?_
      rotate_left
      · intro w hSw
        (try dsimp only at hSw)
        first | (go_simp; done) | (go_simp; with_reducible rfl)
      (try simp only [Act.put, List.setIfInBounds_toArray, List.set_cons_zero, List.set_cons_succ])
      refine wpAnyH_take (i := 9) (oi := { dst := some 99, op := .binOp .neq 9 (.tmp 94) (.tmp 98) 9, type := 4, pos := "laws.go:344", after := #[⟨4, .data⟩, ⟨8, .data⟩], guard := none }) (v := ?_) rfl (by kernel_rfl) (by kernel_rfl) (by kernel_rfl) (fun _ _ _ h => h) (Or.inl ⟨by rfl, ?_⟩) (by assumption) ?_
      rotate_left
      · intro w hSw
        (try dsimp only at hSw)
        first | (go_simp; done) | (go_simp; with_reducible rfl)
      (try simp only [Act.put, List.setIfInBounds_toArray, List.set_cons_zero, List.set_cons_succ])
      refine wpAnyH_take (i := 10) (oi := { dst := some 100, op := .move (.tmp 99), type := 4, pos := "laws.go:344", after := #[⟨9, .data⟩], guard := none }) (v := ?_) rfl (by kernel_rfl) (by kernel_rfl) (by kernel_rfl) (fun _ _ _ h => h) (Or.inl ⟨by rfl, ?_⟩) (by assumption) ?_
      rotate_left
      · intro w hSw
        (try dsimp only at hSw)
        first | (go_simp; done) | (go_simp; with_reducible rfl)
      (try simp only [Act.put, List.setIfInBounds_toArray, List.set_cons_zero, List.set_cons_succ])
      refine wpAnyH_take (i := 11) (oi := { dst := some 101, op := .move (.tmp 13), type := 3, pos := "laws.go:344", after := #[⟨10, .guard⟩], guard := some (10, false) }) (v := ?_) rfl (by kernel_rfl) (by kernel_rfl) (by kernel_rfl) (fun _ _ _ h => h) (Or.inl ⟨by rfl, ?_⟩) (by assumption) ?_
      rotate_left
      · intro w hSw
        (try dsimp only at hSw)
        first | (go_simp; done) | (go_simp; with_reducible rfl)
      (try simp only [Act.put, List.setIfInBounds_toArray, List.set_cons_zero, List.set_cons_succ])
      refine wpAnyH_take (i := 12) (oi := { dst := some 102, op := .binOp .gtr 3 (.tmp 101) (.const (Value.int IntKind.i64 0)) 3, type := 4, pos := "laws.go:344", after := #[⟨11, .data⟩, ⟨10, .guard⟩], guard := some (10, false) }) (v := ?_) rfl (by kernel_rfl) (by kernel_rfl) (by kernel_rfl) (fun _ _ _ h => h) (Or.inl ⟨by rfl, ?_⟩) (by assumption) ?_
      rotate_left
      · intro w hSw
        (try dsimp only at hSw)
        first | (go_simp; done) | (go_simp; with_reducible rfl)
      (try simp only [Act.put, List.setIfInBounds_toArray, List.set_cons_zero, List.set_cons_succ])
      refine wpAnyH_take (i := 13) (oi := { dst := some 103, op := .move (.tmp 102), type := 4, pos := "laws.go:344", after := #[⟨12, .data⟩, ⟨10, .chain⟩, ⟨10, .guard⟩], guard := some (10, false) }) (v := ?_) rfl (by kernel_rfl) (by kernel_rfl) (by kernel_rfl) (fun _ _ _ h => h) (Or.inl ⟨by rfl, ?_⟩) (by assumption) ?_
      rotate_left
      · intro w hSw
        (try dsimp only at hSw)
        first | (go_simp; done) | (go_simp; with_reducible rfl)
      (try simp only [Act.put, List.setIfInBounds_toArray, List.set_cons_zero, List.set_cons_succ])
      refine wpAnyH_take (i := 14) (oi := { dst := some 104, op := .move (.tmp 12), type := 34, pos := "laws.go:344", after := #[⟨13, .guard⟩], guard := some (13, true) }) (v := ?_) rfl (by kernel_rfl) (by kernel_rfl) (by kernel_rfl) (fun _ _ _ h => h) (Or.inl ⟨by rfl, ?_⟩) (by assumption) ?_
      rotate_left
      · intro w hSw
        (try dsimp only at hSw)
        first | (go_simp; done) | (go_simp; with_reducible rfl)
      (try simp only [Act.put, List.setIfInBounds_toArray, List.set_cons_zero, List.set_cons_succ])
      refine wpAnyH_take (i := 15) (oi := { dst := some 105, op := .move (.tmp 13), type := 3, pos := "laws.go:344", after := #[⟨13, .guard⟩], guard := some (13, true) }) (v := ?_) rfl (by kernel_rfl) (by kernel_rfl) (by kernel_rfl) (fun _ _ _ h => h) (Or.inl ⟨by rfl, ?_⟩) (by assumption) ?_
      rotate_left
      · intro w hSw
        (try dsimp only at hSw)
        first | (go_simp; done) | (go_simp; with_reducible rfl)
      (try simp only [Act.put, List.setIfInBounds_toArray, List.set_cons_zero, List.set_cons_succ])
      refine wpAnyH_take (i := 16) (oi := { dst := some 106, op := .binOp .sub 3 (.tmp 105) (.const (Value.int IntKind.i64 1)) 3, type := 3, pos := "laws.go:344", after := #[⟨15, .data⟩, ⟨13, .guard⟩], guard := some (13, true) }) (v := ?_) rfl (by kernel_rfl) (by kernel_rfl) (by kernel_rfl) (fun _ _ _ h => h) (Or.inl ⟨by rfl, ?_⟩) (by assumption) ?_
      rotate_left
      · intro w hSw
        (try dsimp only at hSw)
        first | (go_simp; done) | (go_simp; with_reducible rfl)
      (try simp only [Act.put, List.setIfInBounds_toArray, List.set_cons_zero, List.set_cons_succ])
      refine wpAnyH_take (i := 17) (oi := { dst := some 107, op := .indexAddr 34 (.tmp 104) (.tmp 106), type := 0, pos := "laws.go:344", after := #[⟨14, .data⟩, ⟨16, .data⟩, ⟨13, .guard⟩], guard := some (13, true) }) (v := ?_) rfl (by kernel_rfl) (by kernel_rfl) (by kernel_rfl) (fun _ _ _ h => h) (Or.inl ⟨by rfl, ?_⟩) (by assumption) ?_
      rotate_left
      · intro w hSw
        (try dsimp only at hSw)
        first | (go_simp; done) | (go_simp; with_reducible rfl)
      (try simp only [Act.put, List.setIfInBounds_toArray, List.set_cons_zero, List.set_cons_succ])
      refine wpAnyH_take (i := 18) (oi := { dst := some 108, op := .load 9 (.tmp 107), type := 9, pos := "laws.go:344", after := #[⟨17, .data⟩, ⟨13, .guard⟩], guard := some (13, true) }) (v := ?_) rfl (by kernel_rfl) (by kernel_rfl) (by kernel_rfl) (fun _ _ _ h => h) (Or.inl ⟨by rfl, ?_⟩) (by assumption) ?_
      rotate_left
      · intro w hSw
        (try dsimp only at hSw)
        first | (go_simp; done) | (go_simp; with_reducible rfl)
      (try simp only [Act.put, List.setIfInBounds_toArray, List.set_cons_zero, List.set_cons_succ])
      refine wpAnyH_take (i := 19) (oi := { dst := some 109, op := .move (.tmp 12), type := 34, pos := "laws.go:344", after := #[⟨13, .guard⟩], guard := some (13, true) }) (v := ?_) rfl (by kernel_rfl) (by kernel_rfl) (by kernel_rfl) (fun _ _ _ h => h) (Or.inl ⟨by rfl, ?_⟩) (by assumption) ?_
      rotate_left
      · intro w hSw
        (try dsimp only at hSw)
        first | (go_simp; done) | (go_simp; with_reducible rfl)
      (try simp only [Act.put, List.setIfInBounds_toArray, List.set_cons_zero, List.set_cons_succ])
      refine wpAnyH_take (i := 20) (oi := { dst := some 110, op := .move (.tmp 13), type := 3, pos := "laws.go:344", after := #[⟨13, .guard⟩], guard := some (13, true) }) (v := ?_) rfl (by kernel_rfl) (by kernel_rfl) (by kernel_rfl) (fun _ _ _ h => h) (Or.inl ⟨by rfl, ?_⟩) (by assumption) ?_
      rotate_left
      · intro w hSw
        (try dsimp only at hSw)
        first | (go_simp; done) | (go_simp; with_reducible rfl)
      (try simp only [Act.put, List.setIfInBounds_toArray, List.set_cons_zero, List.set_cons_succ])
      refine wpAnyH_take (i := 21) (oi := { dst := some 111, op := .indexAddr 34 (.tmp 109) (.tmp 110), type := 0, pos := "laws.go:344", after := #[⟨19, .data⟩, ⟨20, .data⟩, ⟨13, .guard⟩], guard := some (13, true) }) (v := ?_) rfl (by kernel_rfl) (by kernel_rfl) (by kernel_rfl) (fun _ _ _ h => h) (Or.inl ⟨by rfl, ?_⟩) (by assumption) ?_
      rotate_left
      · intro w hSw
        (try dsimp only at hSw)
        first | (go_simp; done) | (go_simp; with_reducible rfl)
      (try simp only [Act.put, List.setIfInBounds_toArray, List.set_cons_zero, List.set_cons_succ])
      refine wpAnyH_take (i := 22) (oi := { dst := some 112, op := .load 9 (.tmp 111), type := 9, pos := "laws.go:344", after := #[⟨21, .data⟩, ⟨13, .guard⟩], guard := some (13, true) }) (v := ?_) rfl (by kernel_rfl) (by kernel_rfl) (by kernel_rfl) (fun _ _ _ h => h) (Or.inl ⟨by rfl, ?_⟩) (by assumption) ?_
      rotate_left
      · intro w hSw
        (try dsimp only at hSw)
        first | (go_simp; done) | (go_simp; with_reducible rfl)
      (try simp only [Act.put, List.setIfInBounds_toArray, List.set_cons_zero, List.set_cons_succ])
      refine wpAnyH_take (i := 23) (oi := { dst := some 113, op := .binOp .geq 9 (.tmp 108) (.tmp 112) 9, type := 4, pos := "laws.go:344", after := #[⟨18, .data⟩, ⟨22, .data⟩, ⟨13, .guard⟩], guard := some (13, true) }) (v := ?_) rfl (by kernel_rfl) (by kernel_rfl) (by kernel_rfl) (fun _ _ _ h => h) (Or.inl ⟨by rfl, ?_⟩) (by assumption) ?_
      rotate_left
      · intro w hSw
        (try dsimp only at hSw)
        first | (go_simp; done) | (go_simp; with_reducible rfl)
      (try simp only [Act.put, List.setIfInBounds_toArray, List.set_cons_zero, List.set_cons_succ])
      refine wpAnyH_take (i := 24) (oi := { dst := some 114, op := .pick (.tmp 103) (.tmp 113) (.const (Value.bool false)), type := 4, pos := "laws.go:344", after := #[⟨13, .data⟩, ⟨23, .data⟩, ⟨10, .guard⟩], guard := some (10, false) }) (v := ?_) rfl (by kernel_rfl) (by kernel_rfl) (by kernel_rfl) (fun _ _ _ h => h) (Or.inl ⟨by rfl, ?_⟩) (by assumption) ?_
      rotate_left
      · intro w hSw
        (try dsimp only at hSw)
        first | (go_simp; done) | (go_simp; with_reducible rfl)
      (try simp only [Act.put, List.setIfInBounds_toArray, List.set_cons_zero, List.set_cons_succ])
      refine wpAnyH_take (i := 25) (oi := { dst := some 115, op := .pick (.tmp 100) (.const (Value.bool true)) (.tmp 114), type := 4, pos := "laws.go:344", after := #[⟨10, .data⟩, ⟨24, .data⟩], guard := none }) (v := ?_) rfl (by kernel_rfl) (by kernel_rfl) (by kernel_rfl) (fun _ _ _ h => h) (Or.inl ⟨by rfl, ?_⟩) (by assumption) ?_
      rotate_left
      · intro w hSw
        (try dsimp only at hSw)
        first | (go_simp; done) | (go_simp; with_reducible rfl)
      (try simp only [Act.put, List.setIfInBounds_toArray, List.set_cons_zero, List.set_cons_succ])
      refine wpAnyH_take (i := 26) (oi := { dst := some 116, op := .move (.tmp 115), type := 4, pos := "laws.go:344", after := #[⟨25, .data⟩, ⟨13, .chain⟩], guard := none }) (v := ?_) rfl (by kernel_rfl) (by kernel_rfl) (by kernel_rfl) (fun _ _ _ h => h) (Or.inl ⟨by rfl, ?_⟩) (by assumption) ?_
      rotate_left
      · intro w hSw
        (try dsimp only at hSw)
        first | (go_simp; done) | (go_simp; with_reducible rfl)
      (try simp only [Act.put, List.setIfInBounds_toArray, List.set_cons_zero, List.set_cons_succ])
      refine wpAnyH_take (i := 27) (oi := { dst := some 117, op := .load 27 (.tmp 3), type := 27, pos := "laws.go:344", after := #[⟨26, .guard⟩], guard := some (26, false) }) (v := ?_) rfl (by kernel_rfl) (by kernel_rfl) (by kernel_rfl) (fun _ _ _ h => h) (Or.inl ⟨by rfl, ?_⟩) (by assumption) ?_
      rotate_left
      · intro w hSw
        (try dsimp only at hSw)
        first | (go_simp; done) | (go_simp; with_reducible rfl)
      (try simp only [Act.put, List.setIfInBounds_toArray, List.set_cons_zero, List.set_cons_succ])
      refine wpAnyH_take (i := 28) (oi := { dst := some 118, op := .move (.tmp 12), type := 34, pos := "laws.go:344", after := #[⟨26, .guard⟩], guard := some (26, false) }) (v := ?_) rfl (by kernel_rfl) (by kernel_rfl) (by kernel_rfl) (fun _ _ _ h => h) (Or.inl ⟨by rfl, ?_⟩) (by assumption) ?_
      rotate_left
      · intro w hSw
        (try dsimp only at hSw)
        first | (go_simp; done) | (go_simp; with_reducible rfl)
      (try simp only [Act.put, List.setIfInBounds_toArray, List.set_cons_zero, List.set_cons_succ])
      refine wpAnyH_take (i := 29) (oi := { dst := some 119, op := .move (.tmp 13), type := 3, pos := "laws.go:344", after := #[⟨26, .guard⟩], guard := some (26, false) }) (v := ?_) rfl (by kernel_rfl) (by kernel_rfl) (by kernel_rfl) (fun _ _ _ h => h) (Or.inl ⟨by rfl, ?_⟩) (by assumption) ?_
      rotate_left
      · intro w hSw
        (try dsimp only at hSw)
        first | (go_simp; done) | (go_simp; with_reducible rfl)
      (try simp only [Act.put, List.setIfInBounds_toArray, List.set_cons_zero, List.set_cons_succ])
      refine wpAnyH_take (i := 30) (oi := { dst := some 120, op := .indexAddr 34 (.tmp 118) (.tmp 119), type := 0, pos := "laws.go:344", after := #[⟨28, .data⟩, ⟨29, .data⟩, ⟨26, .guard⟩], guard := some (26, false) }) (v := ?_) rfl (by kernel_rfl) (by kernel_rfl) (by kernel_rfl) (fun _ _ _ h => h) (Or.inl ⟨by rfl, ?_⟩) (by assumption) ?_
      rotate_left
      · intro w hSw
        (try dsimp only at hSw)
        first | (go_simp; done) | (go_simp; with_reducible rfl)
      (try simp only [Act.put, List.setIfInBounds_toArray, List.set_cons_zero, List.set_cons_succ])
      refine wpAnyH_take (i := 31) (oi := { dst := some 121, op := .load 9 (.tmp 120), type := 9, pos := "laws.go:344", after := #[⟨30, .data⟩, ⟨26, .guard⟩], guard := some (26, false) }) (v := ?_) rfl (by kernel_rfl) (by kernel_rfl) (by kernel_rfl) (fun _ _ _ h => h) (Or.inl ⟨by rfl, ?_⟩) (by assumption) ?_
      rotate_left
      · intro w hSw
        (try dsimp only at hSw)
        first | (go_simp; done) | (go_simp; with_reducible rfl)
      (try simp only [Act.put, List.setIfInBounds_toArray, List.set_cons_zero, List.set_cons_succ])
      refine wpAnyH_ready (rs := [32]) (by kernel_rfl) (by simp) ?_
      refine AllReadyH.cons (o := { dst := some 122, op := .call { callee := .value (.func 17), args := #[.tmp 117, .tmp 121], argTypes := #[27, 9] }, type := 2, pos := "laws.go:344", after := #[⟨27, .data⟩, ⟨31, .data⟩, ⟨26, .chain⟩, ⟨26, .guard⟩], guard := some (26, false) }) rfl (fun K hK => ?_) AllReadyH.nil
      go_simp
      go_at_call 17
      refine (implLevel w25 w25.heap.size ava aoa 4 avc l.length aoc xs l y (HVA25.out.more (by omega)) (HOA25.out.more (by omega)) (Nat.le_refl _) (by omega) HCa.out.1 ⟨by omega, HCa.out.2.1⟩).mono ?_
      rintro e w26 ⟨rfl, hb⟩
      rw [HLv.out]
      have HDa26 := Lib.hid ((hb.cell (p := ⟨lb, lo + q * 3, none⟩) (by show lb < _; omega)).trans HDa25.out)
      have HDb26 := Lib.hid ((hb.cell (p := ⟨lb, lo + q * 3 + 1, none⟩) (by show lb < _; omega)).trans HDb25.out)
      have HDc26 := Lib.hid ((hb.cell (p := ⟨lb, lo + q * 3 + 2, none⟩) (by show lb < _; omega)).trans HDc25.out)
      have HDn26 := Lib.hid ((hb.cell (p := ⟨nb, no + q, none⟩) (by show nb < _; omega)).trans HDn25.out)
      have HDp26 := Lib.hid ((hb.cell (p := ⟨nb, no + p, none⟩) (by show nb < _; omega)).trans HDp25.out)
      have HL26 := Lib.hid (HL25.out.below hb (by omega))
      have HS26 := Lib.hid (HS25.out.below hb (by omega))
      have hs26 := hb.size
      have HVA26 := Lib.hid (HVA25.out.below hb (by omega))
      have HOA26 := Lib.hid (HOA25.out.below hb (by omega))
      have HB26 := Lib.hid (HB25.out.trans (hb.mono (by omega)))
      have HXa26 := Lib.hid ((hb.block _ (lt_of_row HXa25.out)).trans HXa25.out)
      have HBk26 := Lib.hid (HBk25.out.trans (hb.mono (by omega)))
      clear hb HVA25 HOA25 HB25 HXa25 HBk25
      clear HL25 HS25
      clear HDa25 HDb25 HDc25 HDn25 HDp25
      have hS2 : w26.cell? ⟨w0.heap.size, 0, none⟩ = some (.slice ava 4 avc) ∧ w26.cell? ⟨w0.heap.size, 1, none⟩ = some (.slice aoa l.length aoc) ∧ w26.cell? ⟨lb, lo + q * 3, none⟩ = some (.string y) ∧ w26.cell? ⟨lb, lo + q * 3 + 1, none⟩ = some (.int .i64 qv) ∧ w26.cell? ⟨lb, lo + q * 3 + 2, none⟩ = some (.bool sv) ∧ w26.cell? ⟨nb, no + q, none⟩ = some (.string y) ∧ w26.cell? ⟨nb, no + p, none⟩ = some (.string z) := ⟨(pair_cells HXa26.out).1, (pair_cells HXa26.out).2, HDa26.out, HDb26.out, HDc26.out, HDn26.out, HDp26.out⟩
      refine hK.out _ _ hS2 (fun hHeld3 => ?_)
      clear hK K
      (try simp only [Act.put, List.setIfInBounds_toArray, List.set_cons_zero, List.set_cons_succ])
      clear hHeld3
      refine wpAnyH_take (i := 33) (oi := { dst := some 123, op := .binOp .rem 2 (.tmp 122) (.const (Value.int IntKind.i64 2)) 2, type := 2, pos := "laws.go:344", after := #[⟨32, .data⟩, ⟨26, .guard⟩], guard := some (26, false) }) (v := ?_) rfl (by kernel_rfl) (by kernel_rfl) (by kernel_rfl) (fun _ _ _ h => h) (Or.inl ⟨by rfl, ?_⟩) (by assumption) ?_
      rotate_left
      · intro w hSw
        (try dsimp only at hSw)
        first | (go_simp; done) | (go_simp; with_reducible rfl)
      (try simp only [Act.put, List.setIfInBounds_toArray, List.set_cons_zero, List.set_cons_succ])
      refine wpAnyH_take (i := 34) (oi := { dst := some 124, op := .binOp .neq 2 (.tmp 123) (.const (Value.int IntKind.i64 1)) 2, type := 4, pos := "laws.go:344", after := #[⟨33, .data⟩, ⟨26, .guard⟩], guard := some (26, false) }) (v := ?_) rfl (by kernel_rfl) (by kernel_rfl) (by kernel_rfl) (fun _ _ _ h => h) (Or.inl ⟨by rfl, ?_⟩) (by assumption) ?_
      rotate_left
      · intro w hSw
        (try dsimp only at hSw)
        first | (go_simp; done) | (go_simp; with_reducible rfl)
      (try simp only [Act.put, List.setIfInBounds_toArray, List.set_cons_zero, List.set_cons_succ])
      refine wpAnyH_take (i := 35) (oi := { dst := some 125, op := .pick (.tmp 116) (.const (Value.bool true)) (.tmp 124), type := 4, pos := "laws.go:344", after := #[⟨26, .data⟩, ⟨34, .data⟩], guard := none }) (v := ?_) rfl (by kernel_rfl) (by kernel_rfl) (by kernel_rfl) (fun _ _ _ h => h) (Or.inl ⟨by rfl, ?_⟩) (by assumption) ?_
      rotate_left
      · intro w hSw
        (try dsimp only at hSw)
        first | (go_simp; done) | (go_simp; with_reducible rfl)
      (try simp only [Act.put, List.setIfInBounds_toArray, List.set_cons_zero, List.set_cons_succ])
      refine wpAnyH_take (i := 36) (oi := { dst := some 126, op := .move (.tmp 125), type := 4, pos := "laws.go:344", after := #[⟨35, .data⟩, ⟨32, .chain⟩], guard := none }) (v := ?_) rfl (by kernel_rfl) (by kernel_rfl) (by kernel_rfl) (fun _ _ _ h => h) (Or.inl ⟨by rfl, ?_⟩) (by assumption) ?_
      rotate_left
      · intro w hSw
        (try dsimp only at hSw)
        first | (go_simp; done) | (go_simp; with_reducible rfl)
      (try simp only [Act.put, List.setIfInBounds_toArray, List.set_cons_zero, List.set_cons_succ])
      refine wpAnyH_take (i := 37) (oi := { dst := some 127, op := .move (.tmp 4), type := 30, pos := "laws.go:344", after := #[⟨36, .guard⟩], guard := some (36, false) }) (v := ?_) rfl (by kernel_rfl) (by kernel_rfl) (by kernel_rfl) (fun _ _ _ h => h) (Or.inl ⟨by rfl, ?_⟩) (by assumption) ?_
      rotate_left
      · intro w hSw
        (try dsimp only at hSw)
        first | (go_simp; done) | (go_simp; with_reducible rfl)
      (try simp only [Act.put, List.setIfInBounds_toArray, List.set_cons_zero, List.set_cons_succ])
      refine wpAnyH_take (i := 38) (oi := { dst := some 128, op := .move (.tmp 13), type := 3, pos := "laws.go:344", after := #[⟨36, .guard⟩], guard := some (36, false) }) (v := ?_) rfl (by kernel_rfl) (by kernel_rfl) (by kernel_rfl) (fun _ _ _ h => h) (Or.inl ⟨by rfl, ?_⟩) (by assumption) ?_
      rotate_left
      · intro w hSw
        (try dsimp only at hSw)
        first | (go_simp; done) | (go_simp; with_reducible rfl)
      (try simp only [Act.put, List.setIfInBounds_toArray, List.set_cons_zero, List.set_cons_succ])
      refine wpAnyH_take (i := 39) (oi := { dst := some 129, op := .indexAddr 30 (.tmp 127) (.tmp 128), type := 0, pos := "laws.go:344", after := #[⟨37, .data⟩, ⟨38, .data⟩, ⟨36, .guard⟩], guard := some (36, false) }) (v := ?_) rfl (by kernel_rfl) (by kernel_rfl) (by kernel_rfl) (fun _ _ _ h => h) (Or.inl ⟨by rfl, ?_⟩) (by assumption) ?_
      rotate_left
      · intro w hSw
        (try dsimp only at hSw)
        first | (go_simp; done) | (go_simp; with_reducible rfl)
      (try simp only [Act.put, List.setIfInBounds_toArray, List.set_cons_zero, List.set_cons_succ])
      refine wpAnyH_take (i := 40) (oi := { dst := some 130, op := .fieldAddr 33 (.tmp 129) 1, type := 0, pos := "laws.go:344", after := #[⟨39, .data⟩, ⟨36, .guard⟩], guard := some (36, false) }) (v := ?_) rfl (by kernel_rfl) (by kernel_rfl) (by kernel_rfl) (fun _ _ _ h => h) (Or.inl ⟨by rfl, ?_⟩) (by assumption) ?_
      rotate_left
      · intro w hSw
        (try dsimp only at hSw)
        first | (go_simp; done) | (go_simp; with_reducible rfl)
      (try simp only [Act.put, List.setIfInBounds_toArray, List.set_cons_zero, List.set_cons_succ])
      refine wpAnyH_take (i := 41) (oi := { dst := some 131, op := .load 2 (.tmp 130), type := 2, pos := "laws.go:344", after := #[⟨40, .data⟩, ⟨36, .guard⟩], guard := some (36, false) }) (v := ?_) rfl (by kernel_rfl) (by kernel_rfl) (by kernel_rfl) (fun _ _ _ h => h) (Or.inl ⟨by rfl, ?_⟩) (by assumption) ?_
      rotate_left
      · intro w hSw
        (try dsimp only at hSw)
        first | (go_simp; done) | (go_simp; with_reducible rfl)
      (try simp only [Act.put, List.setIfInBounds_toArray, List.set_cons_zero, List.set_cons_succ])
      refine wpAnyH_take (i := 42) (oi := { dst := some 132, op := .binOp .lss 2 (.tmp 131) (.const (Value.int IntKind.i64 1)) 2, type := 4, pos := "laws.go:344", after := #[⟨41, .data⟩, ⟨36, .guard⟩], guard := some (36, false) }) (v := ?_) rfl (by kernel_rfl) (by kernel_rfl) (by kernel_rfl) (fun _ _ _ h => h) (Or.inl ⟨by rfl, ?_⟩) (by assumption) ?_
      rotate_left
      · intro w hSw
        (try dsimp only at hSw)
        first | (go_simp; done) | (go_simp; with_reducible rfl)
      (try simp only [Act.put, List.setIfInBounds_toArray, List.set_cons_zero, List.set_cons_succ])
      refine wpAnyH_take (i := 43) (oi := { dst := some 133, op := .pick (.tmp 126) (.const (Value.bool true)) (.tmp 132), type := 4, pos := "laws.go:344", after := #[⟨36, .data⟩, ⟨42, .data⟩], guard := none }) (v := ?_) rfl (by kernel_rfl) (by kernel_rfl) (by kernel_rfl) (fun _ _ _ h => h) (Or.inl ⟨by rfl, ?_⟩) (by assumption) ?_
      rotate_left
      · intro w hSw
        (try dsimp only at hSw)
        first | (go_simp; done) | (go_simp; with_reducible rfl)
      (try simp only [Act.put, List.setIfInBounds_toArray, List.set_cons_zero, List.set_cons_succ])
      refine wpAnyH_take (i := 44) (oi := { dst := some 134, op := .move (.tmp 133), type := 4, pos := "laws.go:344", after := #[⟨43, .data⟩, ⟨36, .chain⟩], guard := none }) (v := ?_) rfl (by kernel_rfl) (by kernel_rfl) (by kernel_rfl) (fun _ _ _ h => h) (Or.inl ⟨by rfl, ?_⟩) (by assumption) ?_
      rotate_left
      · intro w hSw
        (try dsimp only at hSw)
        first | (go_simp; done) | (go_simp; with_reducible rfl)
      (try simp only [Act.put, List.setIfInBounds_toArray, List.set_cons_zero, List.set_cons_succ])
      refine wpAnyH_take (i := 45) (oi := { dst := some 135, op := .move (.tmp 4), type := 30, pos := "laws.go:344", after := #[⟨44, .guard⟩], guard := some (44, false) }) (v := ?_) rfl (by kernel_rfl) (by kernel_rfl) (by kernel_rfl) (fun _ _ _ h => h) (Or.inl ⟨by rfl, ?_⟩) (by assumption) ?_
      rotate_left
      · intro w hSw
        (try dsimp only at hSw)
        first | (go_simp; done) | (go_simp; with_reducible rfl)
      (try simp only [Act.put, List.setIfInBounds_toArray, List.set_cons_zero, List.set_cons_succ])
      refine wpAnyH_take (i := 46) (oi := { dst := some 136, op := .move (.tmp 13), type := 3, pos := "laws.go:344", after := #[⟨44, .guard⟩], guard := some (44, false) }) (v := ?_) rfl (by kernel_rfl) (by kernel_rfl) (by kernel_rfl) (fun _ _ _ h => h) (Or.inl ⟨by rfl, ?_⟩) (by assumption) ?_
      rotate_left
      · intro w hSw
        (try dsimp only at hSw)
        first | (go_simp; done) | (go_simp; with_reducible rfl)
      (try simp only [Act.put, List.setIfInBounds_toArray, List.set_cons_zero, List.set_cons_succ])
      refine wpAnyH_take (i := 47) (oi := { dst := some 137, op := .indexAddr 30 (.tmp 135) (.tmp 136), type := 0, pos := "laws.go:344", after := #[⟨45, .data⟩, ⟨46, .data⟩, ⟨44, .guard⟩], guard := some (44, false) }) (v := ?_) rfl (by kernel_rfl) (by kernel_rfl) (by kernel_rfl) (fun _ _ _ h => h) (Or.inl ⟨by rfl, ?_⟩) (by assumption) ?_
      rotate_left
      · intro w hSw
        (try dsimp only at hSw)
        first | (go_simp; done) | (go_simp; with_reducible rfl)
      (try simp only [Act.put, List.setIfInBounds_toArray, List.set_cons_zero, List.set_cons_succ])
      refine wpAnyH_take (i := 48) (oi := { dst := some 138, op := .fieldAddr 33 (.tmp 137) 1, type := 0, pos := "laws.go:344", after := #[⟨47, .data⟩, ⟨44, .guard⟩], guard := some (44, false) }) (v := ?_) rfl (by kernel_rfl) (by kernel_rfl) (by kernel_rfl) (fun _ _ _ h => h) (Or.inl ⟨by rfl, ?_⟩) (by assumption) ?_
      rotate_left
      · intro w hSw
        (try dsimp only at hSw)
        first | (go_simp; done) | (go_simp; with_reducible rfl)
      (try simp only [Act.put, List.setIfInBounds_toArray, List.set_cons_zero, List.set_cons_succ])
      refine wpAnyH_take (i := 49) (oi := { dst := some 139, op := .load 2 (.tmp 138), type := 2, pos := "laws.go:344", after := #[⟨48, .data⟩, ⟨44, .guard⟩], guard := some (44, false) }) (v := ?_) rfl (by kernel_rfl) (by kernel_rfl) (by kernel_rfl) (fun _ _ _ h => h) (Or.inl ⟨by rfl, ?_⟩) (by assumption) ?_
      rotate_left
      · intro w hSw
        (try dsimp only at hSw)
        first | (go_simp; done) | (go_simp; with_reducible rfl)
      (try simp only [Act.put, List.setIfInBounds_toArray, List.set_cons_zero, List.set_cons_succ])
      refine wpAnyH_take (i := 50) (oi := { dst := some 140, op := .load 27 (.tmp 3), type := 27, pos := "laws.go:344", after := #[⟨44, .guard⟩], guard := some (44, false) }) (v := ?_) rfl (by kernel_rfl) (by kernel_rfl) (by kernel_rfl) (fun _ _ _ h => h) (Or.inl ⟨by rfl, ?_⟩) (by assumption) ?_
      rotate_left
      · intro w hSw
        (try dsimp only at hSw)
        first | (go_simp; done) | (go_simp; with_reducible rfl)
      (try simp only [Act.put, List.setIfInBounds_toArray, List.set_cons_zero, List.set_cons_succ])
      refine wpAnyH_take (i := 51) (oi := { dst := some 141, op := .move (.tmp 12), type := 34, pos := "laws.go:344", after := #[⟨44, .guard⟩], guard := some (44, false) }) (v := ?_) rfl (by kernel_rfl) (by kernel_rfl) (by kernel_rfl) (fun _ _ _ h => h) (Or.inl ⟨by rfl, ?_⟩) (by assumption) ?_
      rotate_left
      · intro w hSw
        (try dsimp only at hSw)
        first | (go_simp; done) | (go_simp; with_reducible rfl)
      (try simp only [Act.put, List.setIfInBounds_toArray, List.set_cons_zero, List.set_cons_succ])
      refine wpAnyH_take (i := 52) (oi := { dst := some 142, op := .move (.tmp 13), type := 3, pos := "laws.go:344", after := #[⟨44, .guard⟩], guard := some (44, false) }) (v := ?_) rfl (by kernel_rfl) (by kernel_rfl) (by kernel_rfl) (fun _ _ _ h => h) (Or.inl ⟨by rfl, ?_⟩) (by assumption) ?_
      rotate_left
      · intro w hSw
        (try dsimp only at hSw)
        first | (go_simp; done) | (go_simp; with_reducible rfl)
      (try simp only [Act.put, List.setIfInBounds_toArray, List.set_cons_zero, List.set_cons_succ])
      refine wpAnyH_take (i := 53) (oi := { dst := some 143, op := .indexAddr 34 (.tmp 141) (.tmp 142), type := 0, pos := "laws.go:344", after := #[⟨51, .data⟩, ⟨52, .data⟩, ⟨44, .guard⟩], guard := some (44, false) }) (v := ?_) rfl (by kernel_rfl) (by kernel_rfl) (by kernel_rfl) (fun _ _ _ h => h) (Or.inl ⟨by rfl, ?_⟩) (by assumption) ?_
      rotate_left
      · intro w hSw
        (try dsimp only at hSw)
        first | (go_simp; done) | (go_simp; with_reducible rfl)
      (try simp only [Act.put, List.setIfInBounds_toArray, List.set_cons_zero, List.set_cons_succ])
      refine wpAnyH_take (i := 54) (oi := { dst := some 144, op := .load 9 (.tmp 143), type := 9, pos := "laws.go:344", after := #[⟨53, .data⟩, ⟨44, .guard⟩], guard := some (44, false) }) (v := ?_) rfl (by kernel_rfl) (by kernel_rfl) (by kernel_rfl) (fun _ _ _ h => h) (Or.inl ⟨by rfl, ?_⟩) (by assumption) ?_
      rotate_left
      · intro w hSw
        (try dsimp only at hSw)
        first | (go_simp; done) | (go_simp; with_reducible rfl)
      (try simp only [Act.put, List.setIfInBounds_toArray, List.set_cons_zero, List.set_cons_succ])
      refine wpAnyH_ready (rs := [55]) (by kernel_rfl) (by simp) ?_
      refine AllReadyH.cons (o := { dst := some 145, op := .call { callee := .value (.func 18), args := #[.tmp 140, .tmp 144], argTypes := #[27, 9] }, type := 2, pos := "laws.go:344", after := #[⟨50, .data⟩, ⟨54, .data⟩, ⟨44, .chain⟩, ⟨44, .guard⟩], guard := some (44, false) }) rfl (fun K hK => ?_) AllReadyH.nil
      go_simp
      go_at_call 18
      refine (implQtyOf w26 w26.heap.size ava aoa 4 avc l.length aoc xs l y (HVA26.out.more (by omega)) (HOA26.out.more (by omega)) (Nat.le_refl _) (by omega) hys HCa.out.1 ⟨by omega, HCa.out.2.1⟩).mono ?_
      rintro e w27 ⟨rfl, hb⟩
      rw [HQv.out]
      have HDa27 := Lib.hid ((hb.cell (p := ⟨lb, lo + q * 3, none⟩) (by show lb < _; omega)).trans HDa26.out)
      have HDb27 := Lib.hid ((hb.cell (p := ⟨lb, lo + q * 3 + 1, none⟩) (by show lb < _; omega)).trans HDb26.out)
      have HDc27 := Lib.hid ((hb.cell (p := ⟨lb, lo + q * 3 + 2, none⟩) (by show lb < _; omega)).trans HDc26.out)
      have HDn27 := Lib.hid ((hb.cell (p := ⟨nb, no + q, none⟩) (by show nb < _; omega)).trans HDn26.out)
      have HDp27 := Lib.hid ((hb.cell (p := ⟨nb, no + p, none⟩) (by show nb < _; omega)).trans HDp26.out)
      have HL27 := Lib.hid (HL26.out.below hb (by omega))
      have HS27 := Lib.hid (HS26.out.below hb (by omega))
      have hs27 := hb.size
      have HVA27 := Lib.hid (HVA26.out.below hb (by omega))
      have HOA27 := Lib.hid (HOA26.out.below hb (by omega))
      have HB27 := Lib.hid (HB26.out.trans (hb.mono (by omega)))
      have HXa27 := Lib.hid ((hb.block _ (lt_of_row HXa26.out)).trans HXa26.out)
      have HBk27 := Lib.hid (HBk26.out.trans (hb.mono (by omega)))
      clear hb HVA26 HOA26 HB26 HXa26 HBk26
      clear HL26 HS26
      clear HDa26 HDb26 HDc26 HDn26 HDp26
      have hS4 : w27.cell? ⟨w0.heap.size, 0, none⟩ = some (.slice ava 4 avc) ∧ w27.cell? ⟨w0.heap.size, 1, none⟩ = some (.slice aoa l.length aoc) ∧ w27.cell? ⟨lb, lo + q * 3, none⟩ = some (.string y) ∧ w27.cell? ⟨lb, lo + q * 3 + 1, none⟩ = some (.int .i64 qv) ∧ w27.cell? ⟨lb, lo + q * 3 + 2, none⟩ = some (.bool sv) ∧ w27.cell? ⟨nb, no + q, none⟩ = some (.string y) ∧ w27.cell? ⟨nb, no + p, none⟩ = some (.string z) := ⟨(pair_cells HXa27.out).1, (pair_cells HXa27.out).2, HDa27.out, HDb27.out, HDc27.out, HDn27.out, HDp27.out⟩
      refine hK.out _ _ hS4 (fun hHeld5 => ?_)
      clear hK K
      (try simp only [Act.put, List.setIfInBounds_toArray, List.set_cons_zero, List.set_cons_succ])
      clear hHeld5
      refine wpAnyH_take (i := 56) (oi := { dst := some 146, op := .binOp .neq 2 (.tmp 139) (.tmp 145) 2, type := 4, pos := "laws.go:344", after := #[⟨49, .data⟩, ⟨55, .data⟩, ⟨44, .guard⟩], guard := some (44, false) }) (v := ?_) rfl (by kernel_rfl) (by kernel_rfl) (by kernel_rfl) (fun _ _ _ h => h) (Or.inl ⟨by rfl, ?_⟩) (by assumption) ?_
      rotate_left
      · intro w hSw
        (try dsimp only at hSw)
        first | (go_simp; done) | (go_simp; with_reducible rfl)
      (try simp only [Act.put, List.setIfInBounds_toArray, List.set_cons_zero, List.set_cons_succ])
      refine wpAnyH_take (i := 57) (oi := { dst := some 147, op := .pick (.tmp 134) (.const (Value.bool true)) (.tmp 146), type := 4, pos := "laws.go:344", after := #[⟨44, .data⟩, ⟨56, .data⟩], guard := none }) (v := ?_) rfl (by kernel_rfl) (by kernel_rfl) (by kernel_rfl) (fun _ _ _ h => h) (Or.inl ⟨by rfl, ?_⟩) (by assumption) ?_
      rotate_left
      · intro w hSw
        (try dsimp only at hSw)
        first | (go_simp; done) | (go_simp; with_reducible rfl)
      (try simp only [Act.put, List.setIfInBounds_toArray, List.set_cons_zero, List.set_cons_succ])
      refine wpAnyH_take (i := 58) (oi := { dst := some 148, op := .move (.tmp 147), type := 4, pos := "laws.go:344", after := #[⟨57, .data⟩, ⟨55, .chain⟩], guard := none }) (v := ?_) rfl (by kernel_rfl) (by kernel_rfl) (by kernel_rfl) (fun _ _ _ h => h) (Or.inl ⟨by rfl, ?_⟩) (by assumption) ?_
      rotate_left
      · intro w hSw
        (try dsimp only at hSw)
        first | (go_simp; done) | (go_simp; with_reducible rfl)
      (try simp only [Act.put, List.setIfInBounds_toArray, List.set_cons_zero, List.set_cons_succ])
      refine wpAnyH_take (i := 59) (oi := { dst := some 149, op := .move (.tmp 4), type := 30, pos := "laws.go:344", after := #[⟨58, .guard⟩], guard := some (58, false) }) (v := ?_) rfl (by kernel_rfl) (by kernel_rfl) (by kernel_rfl) (fun _ _ _ h => h) (Or.inl ⟨by rfl, ?_⟩) (by assumption) ?_
      rotate_left
      · intro w hSw
        (try dsimp only at hSw)
        first | (go_simp; done) | (go_simp; with_reducible rfl)
      (try simp only [Act.put, List.setIfInBounds_toArray, List.set_cons_zero, List.set_cons_succ])
      refine wpAnyH_take (i := 60) (oi := { dst := some 150, op := .move (.tmp 13), type := 3, pos := "laws.go:344", after := #[⟨58, .guard⟩], guard := some (58, false) }) (v := ?_) rfl (by kernel_rfl) (by kernel_rfl) (by kernel_rfl) (fun _ _ _ h => h) (Or.inl ⟨by rfl, ?_⟩) (by assumption) ?_
      rotate_left
      · intro w hSw
        (try dsimp only at hSw)
        first | (go_simp; done) | (go_simp; with_reducible rfl)
      (try simp only [Act.put, List.setIfInBounds_toArray, List.set_cons_zero, List.set_cons_succ])
      refine wpAnyH_take (i := 61) (oi := { dst := some 151, op := .indexAddr 30 (.tmp 149) (.tmp 150), type := 0, pos := "laws.go:344", after := #[⟨59, .data⟩, ⟨60, .data⟩, ⟨58, .guard⟩], guard := some (58, false) }) (v := ?_) rfl (by kernel_rfl) (by kernel_rfl) (by kernel_rfl) (fun _ _ _ h => h) (Or.inl ⟨by rfl, ?_⟩) (by assumption) ?_
      rotate_left
      · intro w hSw
        (try dsimp only at hSw)
        first | (go_simp; done) | (go_simp; with_reducible rfl)
      (try simp only [Act.put, List.setIfInBounds_toArray, List.set_cons_zero, List.set_cons_succ])
      refine wpAnyH_take (i := 62) (oi := { dst := some 152, op := .fieldAddr 33 (.tmp 151) 2, type := 0, pos := "laws.go:344", after := #[⟨61, .data⟩, ⟨58, .guard⟩], guard := some (58, false) }) (v := ?_) rfl (by kernel_rfl) (by kernel_rfl) (by kernel_rfl) (fun _ _ _ h => h) (Or.inl ⟨by rfl, ?_⟩) (by assumption) ?_
      rotate_left
      · intro w hSw
        (try dsimp only at hSw)
        first | (go_simp; done) | (go_simp; with_reducible rfl)
      (try simp only [Act.put, List.setIfInBounds_toArray, List.set_cons_zero, List.set_cons_succ])
      refine wpAnyH_take (i := 63) (oi := { dst := some 153, op := .load 4 (.tmp 152), type := 4, pos := "laws.go:344", after := #[⟨62, .data⟩, ⟨58, .guard⟩], guard := some (58, false) }) (v := ?_) rfl (by kernel_rfl) (by kernel_rfl) (by kernel_rfl) (fun _ _ _ h => h) (Or.inl ⟨by rfl, ?_⟩) (by assumption) ?_
      rotate_left
      · intro w hSw
        (try dsimp only at hSw)
        first | (go_simp; done) | (go_simp; with_reducible rfl)
      (try simp only [Act.put, List.setIfInBounds_toArray, List.set_cons_zero, List.set_cons_succ])
      refine wpAnyH_take (i := 64) (oi := { dst := some 154, op := .load 27 (.tmp 3), type := 27, pos := "laws.go:344", after := #[⟨58, .guard⟩], guard := some (58, false) }) (v := ?_) rfl (by kernel_rfl) (by kernel_rfl) (by kernel_rfl) (fun _ _ _ h => h) (Or.inl ⟨by rfl, ?_⟩) (by assumption) ?_
      rotate_left
      · intro w hSw
        (try dsimp only at hSw)
        first | (go_simp; done) | (go_simp; with_reducible rfl)
      (try simp only [Act.put, List.setIfInBounds_toArray, List.set_cons_zero, List.set_cons_succ])
      refine wpAnyH_take (i := 65) (oi := { dst := some 155, op := .move (.tmp 12), type := 34, pos := "laws.go:344", after := #[⟨58, .guard⟩], guard := some (58, false) }) (v := ?_) rfl (by kernel_rfl) (by kernel_rfl) (by kernel_rfl) (fun _ _ _ h => h) (Or.inl ⟨by rfl, ?_⟩) (by assumption) ?_
      rotate_left
      · intro w hSw
        (try dsimp only at hSw)
        first | (go_simp; done) | (go_simp; with_reducible rfl)
      (try simp only [Act.put, List.setIfInBounds_toArray, List.set_cons_zero, List.set_cons_succ])
      refine wpAnyH_take (i := 66) (oi := { dst := some 156, op := .move (.tmp 13), type := 3, pos := "laws.go:344", after := #[⟨58, .guard⟩], guard := some (58, false) }) (v := ?_) rfl (by kernel_rfl) (by kernel_rfl) (by kernel_rfl) (fun _ _ _ h => h) (Or.inl ⟨by rfl, ?_⟩) (by assumption) ?_
      rotate_left
      · intro w hSw
        (try dsimp only at hSw)
        first | (go_simp; done) | (go_simp; with_reducible rfl)
      (try simp only [Act.put, List.setIfInBounds_toArray, List.set_cons_zero, List.set_cons_succ])
      refine wpAnyH_take (i := 67) (oi := { dst := some 157, op := .indexAddr 34 (.tmp 155) (.tmp 156), type := 0, pos := "laws.go:344", after := #[⟨65, .data⟩, ⟨66, .data⟩, ⟨58, .guard⟩], guard := some (58, false) }) (v := ?_) rfl (by kernel_rfl) (by kernel_rfl) (by kernel_rfl) (fun _ _ _ h => h) (Or.inl ⟨by rfl, ?_⟩) (by assumption) ?_
      rotate_left
      · intro w hSw
        (try dsimp only at hSw)
        first | (go_simp; done) | (go_simp; with_reducible rfl)
      (try simp only [Act.put, List.setIfInBounds_toArray, List.set_cons_zero, List.set_cons_succ])
      refine wpAnyH_take (i := 68) (oi := { dst := some 158, op := .load 9 (.tmp 157), type := 9, pos := "laws.go:344", after := #[⟨67, .data⟩, ⟨58, .guard⟩], guard := some (58, false) }) (v := ?_) rfl (by kernel_rfl) (by kernel_rfl) (by kernel_rfl) (fun _ _ _ h => h) (Or.inl ⟨by rfl, ?_⟩) (by assumption) ?_
      rotate_left
      · intro w hSw
        (try dsimp only at hSw)
        first | (go_simp; done) | (go_simp; with_reducible rfl)
      (try simp only [Act.put, List.setIfInBounds_toArray, List.set_cons_zero, List.set_cons_succ])
      refine wpAnyH_ready (rs := [69]) (by kernel_rfl) (by simp) ?_
      refine AllReadyH.cons (o := { dst := some 159, op := .call { callee := .value (.func 19), args := #[.tmp 154, .tmp 158], argTypes := #[27, 9] }, type := 4, pos := "laws.go:344", after := #[⟨64, .data⟩, ⟨68, .data⟩, ⟨58, .chain⟩, ⟨58, .guard⟩], guard := some (58, false) }) rfl (fun K hK => ?_) AllReadyH.nil
      go_simp
      go_at_call 19
      refine (implSavedOf w27 w27.heap.size ava aoa 4 avc l.length aoc xs l y (HVA27.out.more (by omega)) (HOA27.out.more (by omega)) (Nat.le_refl _) (by omega) hys HCa.out.1 ⟨by omega, HCa.out.2.1⟩).mono ?_
      rintro e w28 ⟨rfl, hb⟩
      rw [HSv.out]
      have HDa28 := Lib.hid ((hb.cell (p := ⟨lb, lo + q * 3, none⟩) (by show lb < _; omega)).trans HDa27.out)
      have HDb28 := Lib.hid ((hb.cell (p := ⟨lb, lo + q * 3 + 1, none⟩) (by show lb < _; omega)).trans HDb27.out)
      have HDc28 := Lib.hid ((hb.cell (p := ⟨lb, lo + q * 3 + 2, none⟩) (by show lb < _; omega)).trans HDc27.out)
      have HDn28 := Lib.hid ((hb.cell (p := ⟨nb, no + q, none⟩) (by show nb < _; omega)).trans HDn27.out)
      have HDp28 := Lib.hid ((hb.cell (p := ⟨nb, no + p, none⟩) (by show nb < _; omega)).trans HDp27.out)
      have HL28 := Lib.hid (HL27.out.below hb (by omega))
      have HS28 := Lib.hid (HS27.out.below hb (by omega))
      have hs28 := hb.size
      have HVA28 := Lib.hid (HVA27.out.below hb (by omega))
      have HOA28 := Lib.hid (HOA27.out.below hb (by omega))
      have HB28 := Lib.hid (HB27.out.trans (hb.mono (by omega)))
      have HXa28 := Lib.hid ((hb.block _ (lt_of_row HXa27.out)).trans HXa27.out)
      have HBk28 := Lib.hid (HBk27.out.trans (hb.mono (by omega)))
      clear hb HVA27 HOA27 HB27 HXa27 HBk27
      clear HL27 HS27
      clear HDa27 HDb27 HDc27 HDn27 HDp27
      have hS6 : w28.cell? ⟨w0.heap.size, 0, none⟩ = some (.slice ava 4 avc) ∧ w28.cell? ⟨w0.heap.size, 1, none⟩ = some (.slice aoa l.length aoc) ∧ w28.cell? ⟨lb, lo + q * 3, none⟩ = some (.string y) ∧ w28.cell? ⟨lb, lo + q * 3 + 1, none⟩ = some (.int .i64 qv) ∧ w28.cell? ⟨lb, lo + q * 3 + 2, none⟩ = some (.bool sv) ∧ w28.cell? ⟨nb, no + q, none⟩ = some (.string y) ∧ w28.cell? ⟨nb, no + p, none⟩ = some (.string z) := ⟨(pair_cells HXa28.out).1, (pair_cells HXa28.out).2, HDa28.out, HDb28.out, HDc28.out, HDn28.out, HDp28.out⟩
      refine hK.out _ _ hS6 (fun hHeld7 => ?_)
      clear hK K
      (try simp only [Act.put, List.setIfInBounds_toArray, List.set_cons_zero, List.set_cons_succ])
      clear hHeld7
      refine wpAnyH_take (i := 70) (oi := { dst := some 160, op := .binOp .neq 4 (.tmp 153) (.tmp 159) 4, type := 4, pos := "laws.go:344", after := #[⟨63, .data⟩, ⟨69, .data⟩, ⟨58, .guard⟩], guard := some (58, false) }) (v := ?_) rfl (by kernel_rfl) (by kernel_rfl) (by kernel_rfl) (fun _ _ _ h => h) (Or.inl ⟨by rfl, ?_⟩) (by assumption) ?_
      rotate_left
      · intro w hSw
        (try dsimp only at hSw)
        first | (go_simp; done) | (go_simp; with_reducible rfl)
      (try simp only [Act.put, List.setIfInBounds_toArray, List.set_cons_zero, List.set_cons_succ])
      refine wpAnyH_take (i := 71) (oi := { dst := some 161, op := .pick (.tmp 148) (.const (Value.bool true)) (.tmp 160), type := 4, pos := "laws.go:344", after := #[⟨58, .data⟩, ⟨70, .data⟩], guard := none }) (v := ?_) rfl (by kernel_rfl) (by kernel_rfl) (by kernel_rfl) (fun _ _ _ h => h) (Or.inl ⟨by rfl, ?_⟩) (by assumption) ?_
      rotate_left
      · intro w hSw
        (try dsimp only at hSw)
        first | (go_simp; done) | (go_simp; with_reducible rfl)
      (try simp only [Act.put, List.setIfInBounds_toArray, List.set_cons_zero, List.set_cons_succ])
      refine wpAnyH_done (by kernel_rfl) ?_ _
      go_wp2
      go_roundw
      case rel => exact ⟨q + 1, by omega, by go_num, HBr.out.trans (HBk28.out.mono HBr.out.size)⟩
      case measure => simp [intOf]; omega
end Go.Proofs.YtejhmakfbmhhhaaGreat
