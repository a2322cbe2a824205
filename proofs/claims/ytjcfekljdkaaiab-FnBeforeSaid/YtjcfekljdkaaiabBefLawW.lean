/- The walk of the law FnBefore. -/
import Derived.Test.YtjcfekljdkaaiabBefDraw
import Derived.Test.YtjcfekljdkaaiabBeforeW
namespace Go.Proofs.Ytjcfekljdkaaiab
open Go.RowKit

structure Box2 (w w1 : World) (b c : Nat) (cs ds : Array Value) : Prop where
  fst : w1.heap[b]? = some (.cells cs 25 (0, 0))
  snd : w1.heap[c]? = some (.cells ds 25 (0, 0))
  bel : Below w.heap.size w w1
theorem Box2.next {w w1 w2 : World} {b c : Nat} {cs ds : Array Value} (h : Box2 w w1 b c cs ds) (hb : Below w1.heap.size w1 w2) : Box2 w w2 b c cs ds :=
  ⟨(hb.block _ (Array.getElem?_eq_some_iff.1 h.fst).1).trans h.fst, (hb.block _ (Array.getElem?_eq_some_iff.1 h.snd).1).trans h.snd, h.bel.trans (hb.mono h.bel.size)⟩

theorem bef_other {dev1 seq1 stamp1 kind1 qty1 level1 undos1 : Int} {item1 : ByteArray} {dev2 seq2 stamp2 kind2 qty2 level2 undos2 : Int} {item2 : ByteArray} : befB dev1 seq1 stamp1 kind1 item1 qty1 level1 undos1 dev2 seq2 stamp2 kind2 item2 qty2 level2 undos2 = (opB dev1 seq1 stamp1 kind1 item1 qty1 level1 undos1 && (opB dev2 seq2 stamp2 kind2 item2 qty2 level2 undos2 && preB stamp1 dev1 seq1 stamp2 dev2 seq2)) := rfl

theorem pre_one {s d q s' d' q' : Int} : (!(preB s d q s' d' q' && preB s' d' q' s d q)) = true ∧ (preB s d q s' d' q' || preB s' d' q' s d q) = !(decide (d = d') && (decide (q = q') && decide (s = s'))) ∧ preB s d q s d q = false := by
  unfold preB
  refine ⟨?_, ?_, decide_eq_false (by omega)⟩
  · rw [← Bool.decide_and, Bool.not_eq_true', decide_eq_false_iff_not]; omega
  · rw [← Bool.decide_or, ← Bool.decide_and, ← Bool.decide_and, ← decide_not, decide_eq_decide]; omega

set_option maxRecDepth 100000 in
set_option maxHeartbeats 8000000 in
theorem fnBeforeWalk (a : Option Addr) (len cap : Nat) (zs : List Int) (w : World) (h : IsRow .u8 w a len cap zs) : Calls Try.prog 3 #[.slice a len cap] w fun e w' => e = .returned (.bool true) ∧ Below w.heap.size w w' := by
  by_cases hbig : len ≤ 1048576
  rotate_left
  · go_enter Try.func3, Try.ntmps3
    go_wp2_with fail
    refine (bigYes a len cap hbig w).mono ?_
    rintro e w' ⟨rfl, rfl⟩
    go_wp2
    go_ret
    exact ⟨rfl, Below.refl _ _⟩
  have HS := Lib.hid (src_of_row h hbig)
  clear h
  go_enter Try.func3, Try.ntmps3
  go_wp2_with fail
  refine (bigNo a len cap hbig w).mono ?_
  rintro e w' ⟨rfl, rfl⟩
  go_wp2_with fail
  refine (drawBefore w a len cap HS.out).mono ?_
  rintro e w1 ⟨dev1, seq1, stamp1, kind1, item1, qty1, level1, undos1, dev2, seq2, stamp2, kind2, item2, qty2, level2, undos2, ht1, ht2, rfl, hb⟩
  have hs1 : item1.size ≤ 1048576 := by omega
  have hs2 : item2.size ≤ 1048576 := by omega
  clear ht1 ht2
  go_upto_region 4 with fail
  have hX : Box2 w ((w1.alloc (.cells #[.int .i64 dev1, .int .i64 seq1, .int .i64 stamp1, .int .i64 kind1, .string item1, .int .i64 qty1, .int .i64 level1, .int .i64 undos1] 25)).alloc (.cells #[.int .i64 dev2, .int .i64 seq2, .int .i64 stamp2, .int .i64 kind2, .string item2, .int .i64 qty2, .int .i64 level2, .int .i64 undos2] 25)) w1.heap.size (w1.heap.size + 1) #[.int .i64 dev1, .int .i64 seq1, .int .i64 stamp1, .int .i64 kind1, .string item1, .int .i64 qty1, .int .i64 level1, .int .i64 undos1] #[.int .i64 dev2, .int .i64 seq2, .int .i64 stamp2, .int .i64 kind2, .string item2, .int .i64 qty2, .int .i64 level2, .int .i64 undos2] := by
    have hT := Two.mk0 w1 #[.int .i64 dev1, .int .i64 seq1, .int .i64 stamp1, .int .i64 kind1, .string item1, .int .i64 qty1, .int .i64 level1, .int .i64 undos1] #[.int .i64 dev2, .int .i64 seq2, .int .i64 stamp2, .int .i64 kind2, .string item2, .int .i64 qty2, .int .i64 level2, .int .i64 undos2] 25
    exact ⟨hT.fst, hT.snd, hb.trans (hT.bel.mono hb.size)⟩
  generalize (w1.alloc (.cells #[.int .i64 dev1, .int .i64 seq1, .int .i64 stamp1, .int .i64 kind1, .string item1, .int .i64 qty1, .int .i64 level1, .int .i64 undos1] 25)).alloc (.cells #[.int .i64 dev2, .int .i64 seq2, .int .i64 stamp2, .int .i64 kind2, .string item2, .int .i64 qty2, .int .i64 level2, .int .i64 undos2] 25) = u0 at hX ⊢
  generalize hbo : w1.heap.size + 1 = bc at hX ⊢
  clear hbo
  generalize w1.heap.size = bo at hX ⊢
  have HX0 := Lib.hid hX
  clear hX hb HS
  have HB12 : Hid (befB dev1 seq1 stamp1 kind1 item1 qty1 level1 undos1 dev2 seq2 stamp2 kind2 item2 qty2 level2 undos2 = (opB dev1 seq1 stamp1 kind1 item1 qty1 level1 undos1 && (opB dev2 seq2 stamp2 kind2 item2 qty2 level2 undos2 && preB stamp1 dev1 seq1 stamp2 dev2 seq2))) := rfl
  have HB21 : Hid (befB dev2 seq2 stamp2 kind2 item2 qty2 level2 undos2 dev1 seq1 stamp1 kind1 item1 qty1 level1 undos1 = (opB dev2 seq2 stamp2 kind2 item2 qty2 level2 undos2 && (opB dev1 seq1 stamp1 kind1 item1 qty1 level1 undos1 && preB stamp2 dev2 seq2 stamp1 dev1 seq1))) := rfl
  have HB11 : Hid (befB dev1 seq1 stamp1 kind1 item1 qty1 level1 undos1 dev1 seq1 stamp1 kind1 item1 qty1 level1 undos1 = (opB dev1 seq1 stamp1 kind1 item1 qty1 level1 undos1 && (opB dev1 seq1 stamp1 kind1 item1 qty1 level1 undos1 && preB stamp1 dev1 seq1 stamp1 dev1 seq1))) := rfl
  rcases ho1 : opB dev1 seq1 stamp1 kind1 item1 qty1 level1 undos1 with _ | _
  · have HO1 := Lib.hid ho1
    have H12 : Hid (befB dev1 seq1 stamp1 kind1 item1 qty1 level1 undos1 dev2 seq2 stamp2 kind2 item2 qty2 level2 undos2 = false) := by show befB _ _ _ _ _ _ _ _ _ _ _ _ _ _ _ _ = _; rw [HB12.out, ho1, Bool.false_and]
    have H21 : Hid (befB dev2 seq2 stamp2 kind2 item2 qty2 level2 undos2 dev1 seq1 stamp1 kind1 item1 qty1 level1 undos1 = false) := by show befB _ _ _ _ _ _ _ _ _ _ _ _ _ _ _ _ = _; rw [HB21.out, ho1, Bool.false_and, Bool.and_false]
    clear ho1 HB12 HB21 HB11
    obtain ⟨c0, c1, c2, c3, c4, c5, c6, c7⟩ := op_cells HX0.out.fst
    obtain ⟨d0, d1, d2, d3, d4, d5, d6, d7⟩ := op_cells HX0.out.snd
    go_wp2_with fail
    refine (implBefore dev1 seq1 stamp1 kind1 item1 qty1 level1 undos1 dev2 seq2 stamp2 kind2 item2 qty2 level2 undos2 _).mono ?_
    rintro e u1 ⟨rfl, hb⟩
    rw [H12.out]
    have HX1 := Lib.hid (HX0.out.next hb)
    clear hb HX0 c0 c1 c2 c3 c4 c5 c6 c7 d0 d1 d2 d3 d4 d5 d6 d7
    obtain ⟨c0, c1, c2, c3, c4, c5, c6, c7⟩ := op_cells HX1.out.fst
    obtain ⟨d0, d1, d2, d3, d4, d5, d6, d7⟩ := op_cells HX1.out.snd
    go_wp2_with fail
    refine (implBefore dev2 seq2 stamp2 kind2 item2 qty2 level2 undos2 dev1 seq1 stamp1 kind1 item1 qty1 level1 undos1 _).mono ?_
    rintro e u2 ⟨rfl, hb⟩
    rw [H21.out]
    have HX2 := Lib.hid (HX1.out.next hb)
    clear hb HX1 c0 c1 c2 c3 c4 c5 c6 c7 d0 d1 d2 d3 d4 d5 d6 d7
    obtain ⟨c0, c1, c2, c3, c4, c5, c6, c7⟩ := op_cells HX2.out.fst
    obtain ⟨d0, d1, d2, d3, d4, d5, d6, d7⟩ := op_cells HX2.out.snd
    go_wp2_with fail
    refine (specBefore dev1 seq1 stamp1 kind1 item1 qty1 level1 undos1 dev2 seq2 stamp2 kind2 item2 qty2 level2 undos2 _ hs1 hs2).mono ?_
    rintro e u3 ⟨rfl, hb⟩
    rw [H12.out]
    have HX3 := Lib.hid (HX2.out.next hb)
    clear hb HX2 c0 c1 c2 c3 c4 c5 c6 c7 d0 d1 d2 d3 d4 d5 d6 d7
    obtain ⟨c0, c1, c2, c3, c4, c5, c6, c7⟩ := op_cells HX3.out.fst
    obtain ⟨d0, d1, d2, d3, d4, d5, d6, d7⟩ := op_cells HX3.out.snd
    go_wp2_with fail
    refine (specOpOk dev1 seq1 stamp1 kind1 item1 qty1 level1 undos1 _ hs1).mono ?_
    rintro e u4 ⟨rfl, hb⟩
    rw [HO1.out]
    have HX4 := Lib.hid (HX3.out.next hb)
    clear hb HX3 c0 c1 c2 c3 c4 c5 c6 c7 d0 d1 d2 d3 d4 d5 d6 d7
    obtain ⟨c0, c1, c2, c3, c4, c5, c6, c7⟩ := op_cells HX4.out.fst
    obtain ⟨d0, d1, d2, d3, d4, d5, d6, d7⟩ := op_cells HX4.out.snd
    go_wp2_with fail
    refine (specBefore dev1 seq1 stamp1 kind1 item1 qty1 level1 undos1 dev2 seq2 stamp2 kind2 item2 qty2 level2 undos2 _ hs1 hs2).mono ?_
    rintro e u5 ⟨rfl, hb⟩
    rw [H12.out]
    have HX5 := Lib.hid (HX4.out.next hb)
    clear hb HX4 c0 c1 c2 c3 c4 c5 c6 c7 d0 d1 d2 d3 d4 d5 d6 d7
    go_wp2
    go_ret
    exact ⟨rfl, HX5.out.bel⟩
  rcases ho2 : opB dev2 seq2 stamp2 kind2 item2 qty2 level2 undos2 with _ | _
  · have HO1 := Lib.hid ho1
    have HO2 := Lib.hid ho2
    have H12 : Hid (befB dev1 seq1 stamp1 kind1 item1 qty1 level1 undos1 dev2 seq2 stamp2 kind2 item2 qty2 level2 undos2 = false) := by show befB _ _ _ _ _ _ _ _ _ _ _ _ _ _ _ _ = _; rw [HB12.out, ho2, Bool.false_and, Bool.and_false]
    have H21 : Hid (befB dev2 seq2 stamp2 kind2 item2 qty2 level2 undos2 dev1 seq1 stamp1 kind1 item1 qty1 level1 undos1 = false) := by show befB _ _ _ _ _ _ _ _ _ _ _ _ _ _ _ _ = _; rw [HB21.out, ho2, Bool.false_and]
    clear ho1 ho2 HB12 HB21 HB11
    obtain ⟨c0, c1, c2, c3, c4, c5, c6, c7⟩ := op_cells HX0.out.fst
    obtain ⟨d0, d1, d2, d3, d4, d5, d6, d7⟩ := op_cells HX0.out.snd
    go_wp2_with fail
    refine (implBefore dev1 seq1 stamp1 kind1 item1 qty1 level1 undos1 dev2 seq2 stamp2 kind2 item2 qty2 level2 undos2 _).mono ?_
    rintro e u1 ⟨rfl, hb⟩
    rw [H12.out]
    have HX1 := Lib.hid (HX0.out.next hb)
    clear hb HX0 c0 c1 c2 c3 c4 c5 c6 c7 d0 d1 d2 d3 d4 d5 d6 d7
    obtain ⟨c0, c1, c2, c3, c4, c5, c6, c7⟩ := op_cells HX1.out.fst
    obtain ⟨d0, d1, d2, d3, d4, d5, d6, d7⟩ := op_cells HX1.out.snd
    go_wp2_with fail
    refine (implBefore dev2 seq2 stamp2 kind2 item2 qty2 level2 undos2 dev1 seq1 stamp1 kind1 item1 qty1 level1 undos1 _).mono ?_
    rintro e u2 ⟨rfl, hb⟩
    rw [H21.out]
    have HX2 := Lib.hid (HX1.out.next hb)
    clear hb HX1 c0 c1 c2 c3 c4 c5 c6 c7 d0 d1 d2 d3 d4 d5 d6 d7
    obtain ⟨c0, c1, c2, c3, c4, c5, c6, c7⟩ := op_cells HX2.out.fst
    obtain ⟨d0, d1, d2, d3, d4, d5, d6, d7⟩ := op_cells HX2.out.snd
    go_wp2_with fail
    refine (specBefore dev1 seq1 stamp1 kind1 item1 qty1 level1 undos1 dev2 seq2 stamp2 kind2 item2 qty2 level2 undos2 _ hs1 hs2).mono ?_
    rintro e u3 ⟨rfl, hb⟩
    rw [H12.out]
    have HX3 := Lib.hid (HX2.out.next hb)
    clear hb HX2 c0 c1 c2 c3 c4 c5 c6 c7 d0 d1 d2 d3 d4 d5 d6 d7
    obtain ⟨c0, c1, c2, c3, c4, c5, c6, c7⟩ := op_cells HX3.out.fst
    obtain ⟨d0, d1, d2, d3, d4, d5, d6, d7⟩ := op_cells HX3.out.snd
    go_wp2_with fail
    refine (specOpOk dev1 seq1 stamp1 kind1 item1 qty1 level1 undos1 _ hs1).mono ?_
    rintro e u4 ⟨rfl, hb⟩
    rw [HO1.out]
    have HX4 := Lib.hid (HX3.out.next hb)
    clear hb HX3 c0 c1 c2 c3 c4 c5 c6 c7 d0 d1 d2 d3 d4 d5 d6 d7
    obtain ⟨c0, c1, c2, c3, c4, c5, c6, c7⟩ := op_cells HX4.out.fst
    obtain ⟨d0, d1, d2, d3, d4, d5, d6, d7⟩ := op_cells HX4.out.snd
    go_wp2_with fail
    refine (specOpOk dev2 seq2 stamp2 kind2 item2 qty2 level2 undos2 _ hs2).mono ?_
    rintro e u5 ⟨rfl, hb⟩
    rw [HO2.out]
    have HX5 := Lib.hid (HX4.out.next hb)
    clear hb HX4 c0 c1 c2 c3 c4 c5 c6 c7 d0 d1 d2 d3 d4 d5 d6 d7
    obtain ⟨c0, c1, c2, c3, c4, c5, c6, c7⟩ := op_cells HX5.out.fst
    obtain ⟨d0, d1, d2, d3, d4, d5, d6, d7⟩ := op_cells HX5.out.snd
    go_wp2_with fail
    refine (specBefore dev1 seq1 stamp1 kind1 item1 qty1 level1 undos1 dev2 seq2 stamp2 kind2 item2 qty2 level2 undos2 _ hs1 hs2).mono ?_
    rintro e u6 ⟨rfl, hb⟩
    rw [H12.out]
    have HX6 := Lib.hid (HX5.out.next hb)
    clear hb HX5 c0 c1 c2 c3 c4 c5 c6 c7 d0 d1 d2 d3 d4 d5 d6 d7
    go_wp2
    go_ret
    exact ⟨rfl, HX6.out.bel⟩
  have HO1 := Lib.hid ho1
  have HO2 := Lib.hid ho2
  obtain ⟨p1, p2, p3⟩ := @pre_one stamp1 dev1 seq1 stamp2 dev2 seq2
  have H11 : Hid (befB dev1 seq1 stamp1 kind1 item1 qty1 level1 undos1 dev1 seq1 stamp1 kind1 item1 qty1 level1 undos1 = false) := by show befB _ _ _ _ _ _ _ _ _ _ _ _ _ _ _ _ = _; rw [HB11.out, p3, Bool.and_false, Bool.and_false]
  have H12' : Hid (befB dev1 seq1 stamp1 kind1 item1 qty1 level1 undos1 dev2 seq2 stamp2 kind2 item2 qty2 level2 undos2 = preB stamp1 dev1 seq1 stamp2 dev2 seq2) := by show befB _ _ _ _ _ _ _ _ _ _ _ _ _ _ _ _ = _; rw [HB12.out, ho1, ho2]; rfl
  have H21' : Hid (befB dev2 seq2 stamp2 kind2 item2 qty2 level2 undos2 dev1 seq1 stamp1 kind1 item1 qty1 level1 undos1 = preB stamp2 dev2 seq2 stamp1 dev1 seq1) := by show befB _ _ _ _ _ _ _ _ _ _ _ _ _ _ _ _ = _; rw [HB21.out, ho1, ho2]; rfl
  clear ho1 ho2 HB12 HB21 HB11 p3
  generalize preB stamp1 dev1 seq1 stamp2 dev2 seq2 = x at H12' p1 p2
  generalize preB stamp2 dev2 seq2 stamp1 dev1 seq1 = y at H21' p1 p2
  have HP2 := Lib.hid p2
  clear p2
  by_cases e1 : dev1 = dev2
  · by_cases e2 : seq1 = seq2
    · by_cases e3 : stamp1 = stamp2
      · have hxy : (x || y) = false := by rw [HP2.out, decide_eq_true e1, decide_eq_true e2, decide_eq_true e3]; rfl
        have be1 : (dev1 == dev2) = true := by rw [e1]; exact beq_self_eq_true _
        have be2 : (seq1 == seq2) = true := by rw [e2]; exact beq_self_eq_true _
        have be3 : (stamp1 == stamp2) = true := by rw [e3]; exact beq_self_eq_true _
        clear HP2 e1 e2 e3
        cases x <;> cases y <;> first | (exact absurd p1 (by decide)) | (exact absurd hxy (by decide)) | skip
        · have H12 := H12'
          have H21 := H21'
          clear H12' H21' p1 hxy
          obtain ⟨c0, c1, c2, c3, c4, c5, c6, c7⟩ := op_cells HX0.out.fst
          obtain ⟨d0, d1, d2, d3, d4, d5, d6, d7⟩ := op_cells HX0.out.snd
          go_wp2_with fail
          refine (implBefore dev1 seq1 stamp1 kind1 item1 qty1 level1 undos1 dev2 seq2 stamp2 kind2 item2 qty2 level2 undos2 _).mono ?_
          rintro e u1 ⟨rfl, hb⟩
          rw [H12.out]
          have HX1 := Lib.hid (HX0.out.next hb)
          clear hb HX0 c0 c1 c2 c3 c4 c5 c6 c7 d0 d1 d2 d3 d4 d5 d6 d7
          obtain ⟨c0, c1, c2, c3, c4, c5, c6, c7⟩ := op_cells HX1.out.fst
          obtain ⟨d0, d1, d2, d3, d4, d5, d6, d7⟩ := op_cells HX1.out.snd
          go_wp2_with fail
          refine (implBefore dev2 seq2 stamp2 kind2 item2 qty2 level2 undos2 dev1 seq1 stamp1 kind1 item1 qty1 level1 undos1 _).mono ?_
          rintro e u2 ⟨rfl, hb⟩
          rw [H21.out]
          have HX2 := Lib.hid (HX1.out.next hb)
          clear hb HX1 c0 c1 c2 c3 c4 c5 c6 c7 d0 d1 d2 d3 d4 d5 d6 d7
          obtain ⟨c0, c1, c2, c3, c4, c5, c6, c7⟩ := op_cells HX2.out.fst
          obtain ⟨d0, d1, d2, d3, d4, d5, d6, d7⟩ := op_cells HX2.out.snd
          go_wp2_with fail
          refine (specBefore dev1 seq1 stamp1 kind1 item1 qty1 level1 undos1 dev2 seq2 stamp2 kind2 item2 qty2 level2 undos2 _ hs1 hs2).mono ?_
          rintro e u3 ⟨rfl, hb⟩
          rw [H12.out]
          have HX3 := Lib.hid (HX2.out.next hb)
          clear hb HX2 c0 c1 c2 c3 c4 c5 c6 c7 d0 d1 d2 d3 d4 d5 d6 d7
          obtain ⟨c0, c1, c2, c3, c4, c5, c6, c7⟩ := op_cells HX3.out.fst
          obtain ⟨d0, d1, d2, d3, d4, d5, d6, d7⟩ := op_cells HX3.out.snd
          go_wp2_with fail
          refine (specOpOk dev1 seq1 stamp1 kind1 item1 qty1 level1 undos1 _ hs1).mono ?_
          rintro e u4 ⟨rfl, hb⟩
          rw [HO1.out]
          have HX4 := Lib.hid (HX3.out.next hb)
          clear hb HX3 c0 c1 c2 c3 c4 c5 c6 c7 d0 d1 d2 d3 d4 d5 d6 d7
          obtain ⟨c0, c1, c2, c3, c4, c5, c6, c7⟩ := op_cells HX4.out.fst
          obtain ⟨d0, d1, d2, d3, d4, d5, d6, d7⟩ := op_cells HX4.out.snd
          go_wp2_with fail
          refine (specOpOk dev2 seq2 stamp2 kind2 item2 qty2 level2 undos2 _ hs2).mono ?_
          rintro e u5 ⟨rfl, hb⟩
          rw [HO2.out]
          have HX5 := Lib.hid (HX4.out.next hb)
          clear hb HX4 c0 c1 c2 c3 c4 c5 c6 c7 d0 d1 d2 d3 d4 d5 d6 d7
          obtain ⟨c0, c1, c2, c3, c4, c5, c6, c7⟩ := op_cells HX5.out.fst
          obtain ⟨d0, d1, d2, d3, d4, d5, d6, d7⟩ := op_cells HX5.out.snd
          go_wp2_with fail
          refine (implBefore dev1 seq1 stamp1 kind1 item1 qty1 level1 undos1 dev1 seq1 stamp1 kind1 item1 qty1 level1 undos1 _).mono ?_
          rintro e u6 ⟨rfl, hb⟩
          rw [H11.out]
          have HX6 := Lib.hid (HX5.out.next hb)
          clear hb HX5 c0 c1 c2 c3 c4 c5 c6 c7 d0 d1 d2 d3 d4 d5 d6 d7
          go_wp2
          go_ret
          exact ⟨rfl, HX6.out.bel⟩
      · have hxy : (x || y) = true := by rw [HP2.out, decide_eq_true e1, decide_eq_true e2, decide_eq_false e3]; rfl
        have be1 : (dev1 == dev2) = true := by rw [e1]; exact beq_self_eq_true _
        have be2 : (seq1 == seq2) = true := by rw [e2]; exact beq_self_eq_true _
        have be3 : (stamp1 == stamp2) = false := by rw [beq_eq_false_iff_ne]; exact e3
        clear HP2 e1 e2 e3
        cases x <;> cases y <;> first | (exact absurd p1 (by decide)) | (exact absurd hxy (by decide)) | skip
        · have H12 := H12'
          have H21 := H21'
          clear H12' H21' p1 hxy
          obtain ⟨c0, c1, c2, c3, c4, c5, c6, c7⟩ := op_cells HX0.out.fst
          obtain ⟨d0, d1, d2, d3, d4, d5, d6, d7⟩ := op_cells HX0.out.snd
          go_wp2_with fail
          refine (implBefore dev1 seq1 stamp1 kind1 item1 qty1 level1 undos1 dev2 seq2 stamp2 kind2 item2 qty2 level2 undos2 _).mono ?_
          rintro e u1 ⟨rfl, hb⟩
          rw [H12.out]
          have HX1 := Lib.hid (HX0.out.next hb)
          clear hb HX0 c0 c1 c2 c3 c4 c5 c6 c7 d0 d1 d2 d3 d4 d5 d6 d7
          obtain ⟨c0, c1, c2, c3, c4, c5, c6, c7⟩ := op_cells HX1.out.fst
          obtain ⟨d0, d1, d2, d3, d4, d5, d6, d7⟩ := op_cells HX1.out.snd
          go_wp2_with fail
          refine (implBefore dev2 seq2 stamp2 kind2 item2 qty2 level2 undos2 dev1 seq1 stamp1 kind1 item1 qty1 level1 undos1 _).mono ?_
          rintro e u2 ⟨rfl, hb⟩
          rw [H21.out]
          have HX2 := Lib.hid (HX1.out.next hb)
          clear hb HX1 c0 c1 c2 c3 c4 c5 c6 c7 d0 d1 d2 d3 d4 d5 d6 d7
          obtain ⟨c0, c1, c2, c3, c4, c5, c6, c7⟩ := op_cells HX2.out.fst
          obtain ⟨d0, d1, d2, d3, d4, d5, d6, d7⟩ := op_cells HX2.out.snd
          go_wp2_with fail
          refine (specBefore dev1 seq1 stamp1 kind1 item1 qty1 level1 undos1 dev2 seq2 stamp2 kind2 item2 qty2 level2 undos2 _ hs1 hs2).mono ?_
          rintro e u3 ⟨rfl, hb⟩
          rw [H12.out]
          have HX3 := Lib.hid (HX2.out.next hb)
          clear hb HX2 c0 c1 c2 c3 c4 c5 c6 c7 d0 d1 d2 d3 d4 d5 d6 d7
          obtain ⟨c0, c1, c2, c3, c4, c5, c6, c7⟩ := op_cells HX3.out.fst
          obtain ⟨d0, d1, d2, d3, d4, d5, d6, d7⟩ := op_cells HX3.out.snd
          go_wp2_with fail
          refine (specOpOk dev1 seq1 stamp1 kind1 item1 qty1 level1 undos1 _ hs1).mono ?_
          rintro e u4 ⟨rfl, hb⟩
          rw [HO1.out]
          have HX4 := Lib.hid (HX3.out.next hb)
          clear hb HX3 c0 c1 c2 c3 c4 c5 c6 c7 d0 d1 d2 d3 d4 d5 d6 d7
          obtain ⟨c0, c1, c2, c3, c4, c5, c6, c7⟩ := op_cells HX4.out.fst
          obtain ⟨d0, d1, d2, d3, d4, d5, d6, d7⟩ := op_cells HX4.out.snd
          go_wp2_with fail
          refine (specOpOk dev2 seq2 stamp2 kind2 item2 qty2 level2 undos2 _ hs2).mono ?_
          rintro e u5 ⟨rfl, hb⟩
          rw [HO2.out]
          have HX5 := Lib.hid (HX4.out.next hb)
          clear hb HX4 c0 c1 c2 c3 c4 c5 c6 c7 d0 d1 d2 d3 d4 d5 d6 d7
          obtain ⟨c0, c1, c2, c3, c4, c5, c6, c7⟩ := op_cells HX5.out.fst
          obtain ⟨d0, d1, d2, d3, d4, d5, d6, d7⟩ := op_cells HX5.out.snd
          go_wp2_with fail
          refine (implBefore dev1 seq1 stamp1 kind1 item1 qty1 level1 undos1 dev1 seq1 stamp1 kind1 item1 qty1 level1 undos1 _).mono ?_
          rintro e u6 ⟨rfl, hb⟩
          rw [H11.out]
          have HX6 := Lib.hid (HX5.out.next hb)
          clear hb HX5 c0 c1 c2 c3 c4 c5 c6 c7 d0 d1 d2 d3 d4 d5 d6 d7
          go_wp2
          go_ret
          exact ⟨rfl, HX6.out.bel⟩
        · have H12 := H12'
          have H21 := H21'
          clear H12' H21' p1 hxy
          obtain ⟨c0, c1, c2, c3, c4, c5, c6, c7⟩ := op_cells HX0.out.fst
          obtain ⟨d0, d1, d2, d3, d4, d5, d6, d7⟩ := op_cells HX0.out.snd
          go_wp2_with fail
          refine (implBefore dev1 seq1 stamp1 kind1 item1 qty1 level1 undos1 dev2 seq2 stamp2 kind2 item2 qty2 level2 undos2 _).mono ?_
          rintro e u1 ⟨rfl, hb⟩
          rw [H12.out]
          have HX1 := Lib.hid (HX0.out.next hb)
          clear hb HX0 c0 c1 c2 c3 c4 c5 c6 c7 d0 d1 d2 d3 d4 d5 d6 d7
          obtain ⟨c0, c1, c2, c3, c4, c5, c6, c7⟩ := op_cells HX1.out.fst
          obtain ⟨d0, d1, d2, d3, d4, d5, d6, d7⟩ := op_cells HX1.out.snd
          go_wp2_with fail
          refine (implBefore dev2 seq2 stamp2 kind2 item2 qty2 level2 undos2 dev1 seq1 stamp1 kind1 item1 qty1 level1 undos1 _).mono ?_
          rintro e u2 ⟨rfl, hb⟩
          rw [H21.out]
          have HX2 := Lib.hid (HX1.out.next hb)
          clear hb HX1 c0 c1 c2 c3 c4 c5 c6 c7 d0 d1 d2 d3 d4 d5 d6 d7
          obtain ⟨c0, c1, c2, c3, c4, c5, c6, c7⟩ := op_cells HX2.out.fst
          obtain ⟨d0, d1, d2, d3, d4, d5, d6, d7⟩ := op_cells HX2.out.snd
          go_wp2_with fail
          refine (specBefore dev1 seq1 stamp1 kind1 item1 qty1 level1 undos1 dev2 seq2 stamp2 kind2 item2 qty2 level2 undos2 _ hs1 hs2).mono ?_
          rintro e u3 ⟨rfl, hb⟩
          rw [H12.out]
          have HX3 := Lib.hid (HX2.out.next hb)
          clear hb HX2 c0 c1 c2 c3 c4 c5 c6 c7 d0 d1 d2 d3 d4 d5 d6 d7
          obtain ⟨c0, c1, c2, c3, c4, c5, c6, c7⟩ := op_cells HX3.out.fst
          obtain ⟨d0, d1, d2, d3, d4, d5, d6, d7⟩ := op_cells HX3.out.snd
          go_wp2_with fail
          refine (specOpOk dev1 seq1 stamp1 kind1 item1 qty1 level1 undos1 _ hs1).mono ?_
          rintro e u4 ⟨rfl, hb⟩
          rw [HO1.out]
          have HX4 := Lib.hid (HX3.out.next hb)
          clear hb HX3 c0 c1 c2 c3 c4 c5 c6 c7 d0 d1 d2 d3 d4 d5 d6 d7
          obtain ⟨c0, c1, c2, c3, c4, c5, c6, c7⟩ := op_cells HX4.out.fst
          obtain ⟨d0, d1, d2, d3, d4, d5, d6, d7⟩ := op_cells HX4.out.snd
          go_wp2_with fail
          refine (specOpOk dev2 seq2 stamp2 kind2 item2 qty2 level2 undos2 _ hs2).mono ?_
          rintro e u5 ⟨rfl, hb⟩
          rw [HO2.out]
          have HX5 := Lib.hid (HX4.out.next hb)
          clear hb HX4 c0 c1 c2 c3 c4 c5 c6 c7 d0 d1 d2 d3 d4 d5 d6 d7
          obtain ⟨c0, c1, c2, c3, c4, c5, c6, c7⟩ := op_cells HX5.out.fst
          obtain ⟨d0, d1, d2, d3, d4, d5, d6, d7⟩ := op_cells HX5.out.snd
          go_wp2_with fail
          refine (implBefore dev1 seq1 stamp1 kind1 item1 qty1 level1 undos1 dev1 seq1 stamp1 kind1 item1 qty1 level1 undos1 _).mono ?_
          rintro e u6 ⟨rfl, hb⟩
          rw [H11.out]
          have HX6 := Lib.hid (HX5.out.next hb)
          clear hb HX5 c0 c1 c2 c3 c4 c5 c6 c7 d0 d1 d2 d3 d4 d5 d6 d7
          go_wp2
          go_ret
          exact ⟨rfl, HX6.out.bel⟩
    · have hxy : (x || y) = true := by rw [HP2.out, decide_eq_true e1, decide_eq_false e2]; rfl
      have be1 : (dev1 == dev2) = true := by rw [e1]; exact beq_self_eq_true _
      have be2 : (seq1 == seq2) = false := by rw [beq_eq_false_iff_ne]; exact e2
      clear HP2 e1 e2
      cases x <;> cases y <;> first | (exact absurd p1 (by decide)) | (exact absurd hxy (by decide)) | skip
      · have H12 := H12'
        have H21 := H21'
        clear H12' H21' p1 hxy
        obtain ⟨c0, c1, c2, c3, c4, c5, c6, c7⟩ := op_cells HX0.out.fst
        obtain ⟨d0, d1, d2, d3, d4, d5, d6, d7⟩ := op_cells HX0.out.snd
        go_wp2_with fail
        refine (implBefore dev1 seq1 stamp1 kind1 item1 qty1 level1 undos1 dev2 seq2 stamp2 kind2 item2 qty2 level2 undos2 _).mono ?_
        rintro e u1 ⟨rfl, hb⟩
        rw [H12.out]
        have HX1 := Lib.hid (HX0.out.next hb)
        clear hb HX0 c0 c1 c2 c3 c4 c5 c6 c7 d0 d1 d2 d3 d4 d5 d6 d7
        obtain ⟨c0, c1, c2, c3, c4, c5, c6, c7⟩ := op_cells HX1.out.fst
        obtain ⟨d0, d1, d2, d3, d4, d5, d6, d7⟩ := op_cells HX1.out.snd
        go_wp2_with fail
        refine (implBefore dev2 seq2 stamp2 kind2 item2 qty2 level2 undos2 dev1 seq1 stamp1 kind1 item1 qty1 level1 undos1 _).mono ?_
        rintro e u2 ⟨rfl, hb⟩
        rw [H21.out]
        have HX2 := Lib.hid (HX1.out.next hb)
        clear hb HX1 c0 c1 c2 c3 c4 c5 c6 c7 d0 d1 d2 d3 d4 d5 d6 d7
        obtain ⟨c0, c1, c2, c3, c4, c5, c6, c7⟩ := op_cells HX2.out.fst
        obtain ⟨d0, d1, d2, d3, d4, d5, d6, d7⟩ := op_cells HX2.out.snd
        go_wp2_with fail
        refine (specBefore dev1 seq1 stamp1 kind1 item1 qty1 level1 undos1 dev2 seq2 stamp2 kind2 item2 qty2 level2 undos2 _ hs1 hs2).mono ?_
        rintro e u3 ⟨rfl, hb⟩
        rw [H12.out]
        have HX3 := Lib.hid (HX2.out.next hb)
        clear hb HX2 c0 c1 c2 c3 c4 c5 c6 c7 d0 d1 d2 d3 d4 d5 d6 d7
        obtain ⟨c0, c1, c2, c3, c4, c5, c6, c7⟩ := op_cells HX3.out.fst
        obtain ⟨d0, d1, d2, d3, d4, d5, d6, d7⟩ := op_cells HX3.out.snd
        go_wp2_with fail
        refine (specOpOk dev1 seq1 stamp1 kind1 item1 qty1 level1 undos1 _ hs1).mono ?_
        rintro e u4 ⟨rfl, hb⟩
        rw [HO1.out]
        have HX4 := Lib.hid (HX3.out.next hb)
        clear hb HX3 c0 c1 c2 c3 c4 c5 c6 c7 d0 d1 d2 d3 d4 d5 d6 d7
        obtain ⟨c0, c1, c2, c3, c4, c5, c6, c7⟩ := op_cells HX4.out.fst
        obtain ⟨d0, d1, d2, d3, d4, d5, d6, d7⟩ := op_cells HX4.out.snd
        go_wp2_with fail
        refine (specOpOk dev2 seq2 stamp2 kind2 item2 qty2 level2 undos2 _ hs2).mono ?_
        rintro e u5 ⟨rfl, hb⟩
        rw [HO2.out]
        have HX5 := Lib.hid (HX4.out.next hb)
        clear hb HX4 c0 c1 c2 c3 c4 c5 c6 c7 d0 d1 d2 d3 d4 d5 d6 d7
        obtain ⟨c0, c1, c2, c3, c4, c5, c6, c7⟩ := op_cells HX5.out.fst
        obtain ⟨d0, d1, d2, d3, d4, d5, d6, d7⟩ := op_cells HX5.out.snd
        go_wp2_with fail
        refine (implBefore dev1 seq1 stamp1 kind1 item1 qty1 level1 undos1 dev1 seq1 stamp1 kind1 item1 qty1 level1 undos1 _).mono ?_
        rintro e u6 ⟨rfl, hb⟩
        rw [H11.out]
        have HX6 := Lib.hid (HX5.out.next hb)
        clear hb HX5 c0 c1 c2 c3 c4 c5 c6 c7 d0 d1 d2 d3 d4 d5 d6 d7
        go_wp2
        go_ret
        exact ⟨rfl, HX6.out.bel⟩
      · have H12 := H12'
        have H21 := H21'
        clear H12' H21' p1 hxy
        obtain ⟨c0, c1, c2, c3, c4, c5, c6, c7⟩ := op_cells HX0.out.fst
        obtain ⟨d0, d1, d2, d3, d4, d5, d6, d7⟩ := op_cells HX0.out.snd
        go_wp2_with fail
        refine (implBefore dev1 seq1 stamp1 kind1 item1 qty1 level1 undos1 dev2 seq2 stamp2 kind2 item2 qty2 level2 undos2 _).mono ?_
        rintro e u1 ⟨rfl, hb⟩
        rw [H12.out]
        have HX1 := Lib.hid (HX0.out.next hb)
        clear hb HX0 c0 c1 c2 c3 c4 c5 c6 c7 d0 d1 d2 d3 d4 d5 d6 d7
        obtain ⟨c0, c1, c2, c3, c4, c5, c6, c7⟩ := op_cells HX1.out.fst
        obtain ⟨d0, d1, d2, d3, d4, d5, d6, d7⟩ := op_cells HX1.out.snd
        go_wp2_with fail
        refine (implBefore dev2 seq2 stamp2 kind2 item2 qty2 level2 undos2 dev1 seq1 stamp1 kind1 item1 qty1 level1 undos1 _).mono ?_
        rintro e u2 ⟨rfl, hb⟩
        rw [H21.out]
        have HX2 := Lib.hid (HX1.out.next hb)
        clear hb HX1 c0 c1 c2 c3 c4 c5 c6 c7 d0 d1 d2 d3 d4 d5 d6 d7
        obtain ⟨c0, c1, c2, c3, c4, c5, c6, c7⟩ := op_cells HX2.out.fst
        obtain ⟨d0, d1, d2, d3, d4, d5, d6, d7⟩ := op_cells HX2.out.snd
        go_wp2_with fail
        refine (specBefore dev1 seq1 stamp1 kind1 item1 qty1 level1 undos1 dev2 seq2 stamp2 kind2 item2 qty2 level2 undos2 _ hs1 hs2).mono ?_
        rintro e u3 ⟨rfl, hb⟩
        rw [H12.out]
        have HX3 := Lib.hid (HX2.out.next hb)
        clear hb HX2 c0 c1 c2 c3 c4 c5 c6 c7 d0 d1 d2 d3 d4 d5 d6 d7
        obtain ⟨c0, c1, c2, c3, c4, c5, c6, c7⟩ := op_cells HX3.out.fst
        obtain ⟨d0, d1, d2, d3, d4, d5, d6, d7⟩ := op_cells HX3.out.snd
        go_wp2_with fail
        refine (specOpOk dev1 seq1 stamp1 kind1 item1 qty1 level1 undos1 _ hs1).mono ?_
        rintro e u4 ⟨rfl, hb⟩
        rw [HO1.out]
        have HX4 := Lib.hid (HX3.out.next hb)
        clear hb HX3 c0 c1 c2 c3 c4 c5 c6 c7 d0 d1 d2 d3 d4 d5 d6 d7
        obtain ⟨c0, c1, c2, c3, c4, c5, c6, c7⟩ := op_cells HX4.out.fst
        obtain ⟨d0, d1, d2, d3, d4, d5, d6, d7⟩ := op_cells HX4.out.snd
        go_wp2_with fail
        refine (specOpOk dev2 seq2 stamp2 kind2 item2 qty2 level2 undos2 _ hs2).mono ?_
        rintro e u5 ⟨rfl, hb⟩
        rw [HO2.out]
        have HX5 := Lib.hid (HX4.out.next hb)
        clear hb HX4 c0 c1 c2 c3 c4 c5 c6 c7 d0 d1 d2 d3 d4 d5 d6 d7
        obtain ⟨c0, c1, c2, c3, c4, c5, c6, c7⟩ := op_cells HX5.out.fst
        obtain ⟨d0, d1, d2, d3, d4, d5, d6, d7⟩ := op_cells HX5.out.snd
        go_wp2_with fail
        refine (implBefore dev1 seq1 stamp1 kind1 item1 qty1 level1 undos1 dev1 seq1 stamp1 kind1 item1 qty1 level1 undos1 _).mono ?_
        rintro e u6 ⟨rfl, hb⟩
        rw [H11.out]
        have HX6 := Lib.hid (HX5.out.next hb)
        clear hb HX5 c0 c1 c2 c3 c4 c5 c6 c7 d0 d1 d2 d3 d4 d5 d6 d7
        go_wp2
        go_ret
        exact ⟨rfl, HX6.out.bel⟩
  · have hxy : (x || y) = true := by rw [HP2.out, decide_eq_false e1]; rfl
    have be1 : (dev1 == dev2) = false := by rw [beq_eq_false_iff_ne]; exact e1
    clear HP2 e1
    cases x <;> cases y <;> first | (exact absurd p1 (by decide)) | (exact absurd hxy (by decide)) | skip
    · have H12 := H12'
      have H21 := H21'
      clear H12' H21' p1 hxy
      obtain ⟨c0, c1, c2, c3, c4, c5, c6, c7⟩ := op_cells HX0.out.fst
      obtain ⟨d0, d1, d2, d3, d4, d5, d6, d7⟩ := op_cells HX0.out.snd
      go_wp2_with fail
      refine (implBefore dev1 seq1 stamp1 kind1 item1 qty1 level1 undos1 dev2 seq2 stamp2 kind2 item2 qty2 level2 undos2 _).mono ?_
      rintro e u1 ⟨rfl, hb⟩
      rw [H12.out]
      have HX1 := Lib.hid (HX0.out.next hb)
      clear hb HX0 c0 c1 c2 c3 c4 c5 c6 c7 d0 d1 d2 d3 d4 d5 d6 d7
      obtain ⟨c0, c1, c2, c3, c4, c5, c6, c7⟩ := op_cells HX1.out.fst
      obtain ⟨d0, d1, d2, d3, d4, d5, d6, d7⟩ := op_cells HX1.out.snd
      go_wp2_with fail
      refine (implBefore dev2 seq2 stamp2 kind2 item2 qty2 level2 undos2 dev1 seq1 stamp1 kind1 item1 qty1 level1 undos1 _).mono ?_
      rintro e u2 ⟨rfl, hb⟩
      rw [H21.out]
      have HX2 := Lib.hid (HX1.out.next hb)
      clear hb HX1 c0 c1 c2 c3 c4 c5 c6 c7 d0 d1 d2 d3 d4 d5 d6 d7
      obtain ⟨c0, c1, c2, c3, c4, c5, c6, c7⟩ := op_cells HX2.out.fst
      obtain ⟨d0, d1, d2, d3, d4, d5, d6, d7⟩ := op_cells HX2.out.snd
      go_wp2_with fail
      refine (specBefore dev1 seq1 stamp1 kind1 item1 qty1 level1 undos1 dev2 seq2 stamp2 kind2 item2 qty2 level2 undos2 _ hs1 hs2).mono ?_
      rintro e u3 ⟨rfl, hb⟩
      rw [H12.out]
      have HX3 := Lib.hid (HX2.out.next hb)
      clear hb HX2 c0 c1 c2 c3 c4 c5 c6 c7 d0 d1 d2 d3 d4 d5 d6 d7
      obtain ⟨c0, c1, c2, c3, c4, c5, c6, c7⟩ := op_cells HX3.out.fst
      obtain ⟨d0, d1, d2, d3, d4, d5, d6, d7⟩ := op_cells HX3.out.snd
      go_wp2_with fail
      refine (specOpOk dev1 seq1 stamp1 kind1 item1 qty1 level1 undos1 _ hs1).mono ?_
      rintro e u4 ⟨rfl, hb⟩
      rw [HO1.out]
      have HX4 := Lib.hid (HX3.out.next hb)
      clear hb HX3 c0 c1 c2 c3 c4 c5 c6 c7 d0 d1 d2 d3 d4 d5 d6 d7
      obtain ⟨c0, c1, c2, c3, c4, c5, c6, c7⟩ := op_cells HX4.out.fst
      obtain ⟨d0, d1, d2, d3, d4, d5, d6, d7⟩ := op_cells HX4.out.snd
      go_wp2_with fail
      refine (specOpOk dev2 seq2 stamp2 kind2 item2 qty2 level2 undos2 _ hs2).mono ?_
      rintro e u5 ⟨rfl, hb⟩
      rw [HO2.out]
      have HX5 := Lib.hid (HX4.out.next hb)
      clear hb HX4 c0 c1 c2 c3 c4 c5 c6 c7 d0 d1 d2 d3 d4 d5 d6 d7
      obtain ⟨c0, c1, c2, c3, c4, c5, c6, c7⟩ := op_cells HX5.out.fst
      obtain ⟨d0, d1, d2, d3, d4, d5, d6, d7⟩ := op_cells HX5.out.snd
      go_wp2_with fail
      refine (implBefore dev1 seq1 stamp1 kind1 item1 qty1 level1 undos1 dev1 seq1 stamp1 kind1 item1 qty1 level1 undos1 _).mono ?_
      rintro e u6 ⟨rfl, hb⟩
      rw [H11.out]
      have HX6 := Lib.hid (HX5.out.next hb)
      clear hb HX5 c0 c1 c2 c3 c4 c5 c6 c7 d0 d1 d2 d3 d4 d5 d6 d7
      go_wp2
      go_ret
      exact ⟨rfl, HX6.out.bel⟩
    · have H12 := H12'
      have H21 := H21'
      clear H12' H21' p1 hxy
      obtain ⟨c0, c1, c2, c3, c4, c5, c6, c7⟩ := op_cells HX0.out.fst
      obtain ⟨d0, d1, d2, d3, d4, d5, d6, d7⟩ := op_cells HX0.out.snd
      go_wp2_with fail
      refine (implBefore dev1 seq1 stamp1 kind1 item1 qty1 level1 undos1 dev2 seq2 stamp2 kind2 item2 qty2 level2 undos2 _).mono ?_
      rintro e u1 ⟨rfl, hb⟩
      rw [H12.out]
      have HX1 := Lib.hid (HX0.out.next hb)
      clear hb HX0 c0 c1 c2 c3 c4 c5 c6 c7 d0 d1 d2 d3 d4 d5 d6 d7
      obtain ⟨c0, c1, c2, c3, c4, c5, c6, c7⟩ := op_cells HX1.out.fst
      obtain ⟨d0, d1, d2, d3, d4, d5, d6, d7⟩ := op_cells HX1.out.snd
      go_wp2_with fail
      refine (implBefore dev2 seq2 stamp2 kind2 item2 qty2 level2 undos2 dev1 seq1 stamp1 kind1 item1 qty1 level1 undos1 _).mono ?_
      rintro e u2 ⟨rfl, hb⟩
      rw [H21.out]
      have HX2 := Lib.hid (HX1.out.next hb)
      clear hb HX1 c0 c1 c2 c3 c4 c5 c6 c7 d0 d1 d2 d3 d4 d5 d6 d7
      obtain ⟨c0, c1, c2, c3, c4, c5, c6, c7⟩ := op_cells HX2.out.fst
      obtain ⟨d0, d1, d2, d3, d4, d5, d6, d7⟩ := op_cells HX2.out.snd
      go_wp2_with fail
      refine (specBefore dev1 seq1 stamp1 kind1 item1 qty1 level1 undos1 dev2 seq2 stamp2 kind2 item2 qty2 level2 undos2 _ hs1 hs2).mono ?_
      rintro e u3 ⟨rfl, hb⟩
      rw [H12.out]
      have HX3 := Lib.hid (HX2.out.next hb)
      clear hb HX2 c0 c1 c2 c3 c4 c5 c6 c7 d0 d1 d2 d3 d4 d5 d6 d7
      obtain ⟨c0, c1, c2, c3, c4, c5, c6, c7⟩ := op_cells HX3.out.fst
      obtain ⟨d0, d1, d2, d3, d4, d5, d6, d7⟩ := op_cells HX3.out.snd
      go_wp2_with fail
      refine (specOpOk dev1 seq1 stamp1 kind1 item1 qty1 level1 undos1 _ hs1).mono ?_
      rintro e u4 ⟨rfl, hb⟩
      rw [HO1.out]
      have HX4 := Lib.hid (HX3.out.next hb)
      clear hb HX3 c0 c1 c2 c3 c4 c5 c6 c7 d0 d1 d2 d3 d4 d5 d6 d7
      obtain ⟨c0, c1, c2, c3, c4, c5, c6, c7⟩ := op_cells HX4.out.fst
      obtain ⟨d0, d1, d2, d3, d4, d5, d6, d7⟩ := op_cells HX4.out.snd
      go_wp2_with fail
      refine (specOpOk dev2 seq2 stamp2 kind2 item2 qty2 level2 undos2 _ hs2).mono ?_
      rintro e u5 ⟨rfl, hb⟩
      rw [HO2.out]
      have HX5 := Lib.hid (HX4.out.next hb)
      clear hb HX4 c0 c1 c2 c3 c4 c5 c6 c7 d0 d1 d2 d3 d4 d5 d6 d7
      obtain ⟨c0, c1, c2, c3, c4, c5, c6, c7⟩ := op_cells HX5.out.fst
      obtain ⟨d0, d1, d2, d3, d4, d5, d6, d7⟩ := op_cells HX5.out.snd
      go_wp2_with fail
      refine (implBefore dev1 seq1 stamp1 kind1 item1 qty1 level1 undos1 dev1 seq1 stamp1 kind1 item1 qty1 level1 undos1 _).mono ?_
      rintro e u6 ⟨rfl, hb⟩
      rw [H11.out]
      have HX6 := Lib.hid (HX5.out.next hb)
      clear hb HX5 c0 c1 c2 c3 c4 c5 c6 c7 d0 d1 d2 d3 d4 d5 d6 d7
      go_wp2
      go_ret
      exact ⟨rfl, HX6.out.bel⟩
end Go.Proofs.Ytjcfekljdkaaiab
