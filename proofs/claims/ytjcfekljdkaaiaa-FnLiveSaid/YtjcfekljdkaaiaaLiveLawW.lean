/- The walk of the law FnLive. -/
import Derived.Test.YtjcfekljdkaaiaaOpDraws
import Derived.Test.YtjcfekljdkaaiaaOpLawsW
namespace Go.Proofs.Ytjcfekljdkaaiaa
open Go.RowKit

theorem live_turns {dev seq stamp kind : Int} {item : ByteArray} {qty level undos : Int} (h : opB dev seq stamp kind item qty level undos = true) (hu : undos ≠ 50) : liveB dev seq stamp kind item qty level (undos + 1) = !liveB dev seq stamp kind item qty level undos := by
  have hb := undos_of h
  have h' : opB dev seq stamp kind item qty level (undos + 1) = true := by
    unfold opB headB at h ⊢
    simp only [Bool.and_eq_true] at h ⊢
    exact ⟨⟨h.1.1, h.1.2.1, h.1.2.2.1, h.1.2.2.2.1, inB_yes (by omega) (by omega)⟩, h.2⟩
  unfold liveB
  rw [h, h', Bool.true_and, Bool.true_and, Bool.eq_iff_iff]
  simp
  omega
structure Box (w w1 : World) (b : Nat) (cs : Array Value) : Prop where
  opr : w1.heap[b]? = some (.cells cs 26 (0, 0))
  bel : Below w.heap.size w w1
  own : w.heap.size ≤ b
theorem Box.next {w w1 w2 : World} {b : Nat} {cs : Array Value} (h : Box w w1 b cs) (hb : Below w1.heap.size w1 w2) : Box w w2 b cs :=
  ⟨(hb.block _ (Array.getElem?_eq_some_iff.1 h.opr).1).trans h.opr, h.bel.trans (hb.mono h.bel.size), h.own⟩
theorem Box.put {w w1 : World} {b : Nat} {cs : Array Value} (h : Box w w1 b cs) (i : Nat) (v : Value) : Box w (w1.setCell ⟨b, i, none⟩ v) b (cs.setIfInBounds i v) :=
  ⟨heap_setCell_same _ _ _ _ _ _ h.opr, h.bel.setCell (p := ⟨b, i, none⟩) h.own v, h.own⟩

set_option maxRecDepth 100000 in
set_option maxHeartbeats 4000000 in
theorem fnLiveWalk (a : Option Addr) (len cap : Nat) (zs : List Int) (w : World) (h : IsRow .u8 w a len cap zs) : Calls Try.prog 7 #[.slice a len cap] w fun e w' => e = .returned (.bool true) ∧ Below w.heap.size w w' := by
  by_cases hbig : len ≤ 1048576
  rotate_left
  · go_enter Try.func7, Try.ntmps7
    go_wp2_with fail
    refine (bigYes a len cap hbig w).mono ?_
    rintro e w' ⟨rfl, rfl⟩
    go_wp2
    go_ret
    exact ⟨rfl, Below.refl _ _⟩
  have HS := Lib.hid (src_of_row h hbig)
  clear h
  go_enter Try.func7, Try.ntmps7
  go_wp2_with fail
  refine (bigNo a len cap hbig w).mono ?_
  rintro e w' ⟨rfl, rfl⟩
  go_wp2_with fail
  refine (drawLive w a len cap HS.out).mono ?_
  rintro e w1 ⟨dev, seq, stamp, kind, item, qty, level, undos, ht, rfl, hb⟩
  have hs : item.size ≤ 1048576 := by omega
  go_upto_region 4 with fail
  have hX : Box w (w1.alloc (.cells #[.int .i64 dev, .int .i64 seq, .int .i64 stamp, .int .i64 kind, .string item, .int .i64 qty, .int .i64 level, .int .i64 undos] 26)) w1.heap.size #[.int .i64 dev, .int .i64 seq, .int .i64 stamp, .int .i64 kind, .string item, .int .i64 qty, .int .i64 level, .int .i64 undos] := ⟨boxAt (Below.refl _ _), hb.alloc hb.size _, hb.size⟩
  generalize w1.alloc (.cells #[.int .i64 dev, .int .i64 seq, .int .i64 stamp, .int .i64 kind, .string item, .int .i64 qty, .int .i64 level, .int .i64 undos] 26) = u0 at hX ⊢
  generalize w1.heap.size = bo at hX ⊢
  have HX0 := Lib.hid hX
  clear hX hb HS
  have HLV : Hid (opB dev seq stamp kind item qty level undos = true → undos ≠ 50 → liveB dev seq stamp kind item qty level (undos + 1) = !liveB dev seq stamp kind item qty level undos) := live_turns
  have HUB : Hid (opB dev seq stamp kind item qty level undos = true → 0 ≤ undos ∧ undos ≤ 50) := undos_of
  rcases hl : liveB dev seq stamp kind item qty level undos with _ | _
  · have HL := Lib.hid hl
    rw [hl] at HLV
    clear hl
    obtain ⟨c0, c1, c2, c3, c4, c5, c6, c7⟩ := op_cells HX0.out.opr
    go_wp2_with fail
    refine (implLive dev seq stamp kind item qty level undos _).mono ?_
    rintro e u1 ⟨rfl, hb⟩
    rw [HL.out]
    have HX1 := Lib.hid (HX0.out.next hb)
    clear hb HX0 c0 c1 c2 c3 c4 c5 c6 c7
    obtain ⟨c0, c1, c2, c3, c4, c5, c6, c7⟩ := op_cells HX1.out.opr
    go_wp2_with fail
    refine (specLive dev seq stamp kind item qty level undos _ hs).mono ?_
    rintro e u2 ⟨rfl, hb⟩
    rw [HL.out]
    have HX2 := Lib.hid (HX1.out.next hb)
    clear hb HX1 c0 c1 c2 c3 c4 c5 c6 c7
    rcases ho : opB dev seq stamp kind item qty level undos with _ | _
    · have HO := Lib.hid ho
      clear ho HLV HUB
      obtain ⟨c0, c1, c2, c3, c4, c5, c6, c7⟩ := op_cells HX2.out.opr
      go_wp2_with fail
      refine (specOpOk dev seq stamp kind item qty level undos _ hs).mono ?_
      rintro e u3 ⟨rfl, hb⟩
      rw [HO.out]
      have HX3 := Lib.hid (HX2.out.next hb)
      clear hb HX2 c0 c1 c2 c3 c4 c5 c6 c7
      obtain ⟨c0, c1, c2, c3, c4, c5, c6, c7⟩ := op_cells HX3.out.opr
      go_wp2_with fail
      refine (specLive dev seq stamp kind item qty level undos _ hs).mono ?_
      rintro e u4 ⟨rfl, hb⟩
      rw [HL.out]
      have HX4 := Lib.hid (HX3.out.next hb)
      clear hb HX3 c0 c1 c2 c3 c4 c5 c6 c7
      go_wp2
      go_ret
      exact ⟨rfl, HX4.out.bel⟩
    · have HO := Lib.hid ho
      obtain ⟨hu0, hu1⟩ := HUB.out ho
      clear HUB
      by_cases hu : undos = 50
      · have hub : (undos == 50) = true := by rw [hu]; rfl
        clear hu ho HLV
        obtain ⟨c0, c1, c2, c3, c4, c5, c6, c7⟩ := op_cells HX2.out.opr
        go_wp2_with fail
        refine (specOpOk dev seq stamp kind item qty level undos _ hs).mono ?_
        rintro e u3 ⟨rfl, hb⟩
        rw [HO.out]
        have HX3 := Lib.hid (HX2.out.next hb)
        clear hb HX2 c0 c1 c2 c3 c4 c5 c6 c7
        obtain ⟨c0, c1, c2, c3, c4, c5, c6, c7⟩ := op_cells HX3.out.opr
        go_wp2_with fail
        refine (specLive dev seq stamp kind item qty level undos _ hs).mono ?_
        rintro e u4 ⟨rfl, hb⟩
        rw [HL.out]
        have HX4 := Lib.hid (HX3.out.next hb)
        clear hb c0 c1 c2 c3 c4 c5 c6 c7
        go_wp2
        go_ret
        exact ⟨rfl, HX4.out.bel⟩
      · have hub : (undos == 50) = false := by rw [beq_eq_false_iff_ne]; exact hu
        have HT := Lib.hid (HLV.out ho hu)
        clear hu ho HLV
        obtain ⟨c0, c1, c2, c3, c4, c5, c6, c7⟩ := op_cells HX2.out.opr
        go_wp2_with fail
        refine (specOpOk dev seq stamp kind item qty level undos _ hs).mono ?_
        rintro e u3 ⟨rfl, hb⟩
        rw [HO.out]
        have HX3 := Lib.hid (HX2.out.next hb)
        clear hb HX2 c0 c1 c2 c3 c4 c5 c6 c7
        obtain ⟨c0, c1, c2, c3, c4, c5, c6, c7⟩ := op_cells HX3.out.opr
        obtain ⟨f0, f1, f2, f3, f4, f5, f6, f7⟩ := op_frozen HX3.out.opr
        have HX4 : Hid (Box w (u3.setCell ⟨bo, 7, none⟩ (.int .i64 (undos + 1))) bo #[.int .i64 dev, .int .i64 seq, .int .i64 stamp, .int .i64 kind, .string item, .int .i64 qty, .int .i64 level, .int .i64 (undos + 1)]) := HX3.out.put 7 _
        go_upto_region 8 with fail
        generalize u3.setCell ⟨bo, 7, none⟩ (.int .i64 (undos + 1)) = u4 at HX4 ⊢
        clear HX3 c0 c1 c2 c3 c4 c5 c6 c7 f0 f1 f2 f3 f4 f5 f6 f7
        generalize undos + 1 = und at HT HX4
        obtain ⟨c0, c1, c2, c3, c4, c5, c6, c7⟩ := op_cells HX4.out.opr
        go_wp2_with fail
        refine (implLive dev seq stamp kind item qty level und _).mono ?_
        rintro e u5 ⟨rfl, hb⟩
        rw [HT.out]
        have HX5 := Lib.hid (HX4.out.next hb)
        clear hb HX4 c0 c1 c2 c3 c4 c5 c6 c7
        go_wp2
        go_ret
        exact ⟨rfl, HX5.out.bel⟩
  · have HL := Lib.hid hl
    rw [hl] at HLV
    clear hl
    obtain ⟨c0, c1, c2, c3, c4, c5, c6, c7⟩ := op_cells HX0.out.opr
    go_wp2_with fail
    refine (implLive dev seq stamp kind item qty level undos _).mono ?_
    rintro e u1 ⟨rfl, hb⟩
    rw [HL.out]
    have HX1 := Lib.hid (HX0.out.next hb)
    clear hb HX0 c0 c1 c2 c3 c4 c5 c6 c7
    obtain ⟨c0, c1, c2, c3, c4, c5, c6, c7⟩ := op_cells HX1.out.opr
    go_wp2_with fail
    refine (specLive dev seq stamp kind item qty level undos _ hs).mono ?_
    rintro e u2 ⟨rfl, hb⟩
    rw [HL.out]
    have HX2 := Lib.hid (HX1.out.next hb)
    clear hb HX1 c0 c1 c2 c3 c4 c5 c6 c7
    rcases ho : opB dev seq stamp kind item qty level undos with _ | _
    · have HO := Lib.hid ho
      clear ho HLV HUB
      obtain ⟨c0, c1, c2, c3, c4, c5, c6, c7⟩ := op_cells HX2.out.opr
      go_wp2_with fail
      refine (specOpOk dev seq stamp kind item qty level undos _ hs).mono ?_
      rintro e u3 ⟨rfl, hb⟩
      rw [HO.out]
      have HX3 := Lib.hid (HX2.out.next hb)
      clear hb HX2 c0 c1 c2 c3 c4 c5 c6 c7
      obtain ⟨c0, c1, c2, c3, c4, c5, c6, c7⟩ := op_cells HX3.out.opr
      go_wp2_with fail
      refine (specLive dev seq stamp kind item qty level undos _ hs).mono ?_
      rintro e u4 ⟨rfl, hb⟩
      rw [HL.out]
      have HX4 := Lib.hid (HX3.out.next hb)
      clear hb HX3 c0 c1 c2 c3 c4 c5 c6 c7
      go_wp2
      go_ret
      exact ⟨rfl, HX4.out.bel⟩
    · have HO := Lib.hid ho
      obtain ⟨hu0, hu1⟩ := HUB.out ho
      clear HUB
      by_cases hu : undos = 50
      · have hub : (undos == 50) = true := by rw [hu]; rfl
        clear hu ho HLV
        obtain ⟨c0, c1, c2, c3, c4, c5, c6, c7⟩ := op_cells HX2.out.opr
        go_wp2_with fail
        refine (specOpOk dev seq stamp kind item qty level undos _ hs).mono ?_
        rintro e u3 ⟨rfl, hb⟩
        rw [HO.out]
        have HX3 := Lib.hid (HX2.out.next hb)
        clear hb HX2 c0 c1 c2 c3 c4 c5 c6 c7
        obtain ⟨c0, c1, c2, c3, c4, c5, c6, c7⟩ := op_cells HX3.out.opr
        go_wp2_with fail
        refine (specLive dev seq stamp kind item qty level undos _ hs).mono ?_
        rintro e u4 ⟨rfl, hb⟩
        rw [HL.out]
        have HX4 := Lib.hid (HX3.out.next hb)
        clear hb c0 c1 c2 c3 c4 c5 c6 c7
        go_wp2
        go_ret
        exact ⟨rfl, HX4.out.bel⟩
      · have hub : (undos == 50) = false := by rw [beq_eq_false_iff_ne]; exact hu
        have HT := Lib.hid (HLV.out ho hu)
        clear hu ho HLV
        obtain ⟨c0, c1, c2, c3, c4, c5, c6, c7⟩ := op_cells HX2.out.opr
        go_wp2_with fail
        refine (specOpOk dev seq stamp kind item qty level undos _ hs).mono ?_
        rintro e u3 ⟨rfl, hb⟩
        rw [HO.out]
        have HX3 := Lib.hid (HX2.out.next hb)
        clear hb HX2 c0 c1 c2 c3 c4 c5 c6 c7
        obtain ⟨c0, c1, c2, c3, c4, c5, c6, c7⟩ := op_cells HX3.out.opr
        obtain ⟨f0, f1, f2, f3, f4, f5, f6, f7⟩ := op_frozen HX3.out.opr
        have HX4 : Hid (Box w (u3.setCell ⟨bo, 7, none⟩ (.int .i64 (undos + 1))) bo #[.int .i64 dev, .int .i64 seq, .int .i64 stamp, .int .i64 kind, .string item, .int .i64 qty, .int .i64 level, .int .i64 (undos + 1)]) := HX3.out.put 7 _
        go_upto_region 8 with fail
        generalize u3.setCell ⟨bo, 7, none⟩ (.int .i64 (undos + 1)) = u4 at HX4 ⊢
        clear HX3 c0 c1 c2 c3 c4 c5 c6 c7 f0 f1 f2 f3 f4 f5 f6 f7
        generalize undos + 1 = und at HT HX4
        obtain ⟨c0, c1, c2, c3, c4, c5, c6, c7⟩ := op_cells HX4.out.opr
        go_wp2_with fail
        refine (implLive dev seq stamp kind item qty level und _).mono ?_
        rintro e u5 ⟨rfl, hb⟩
        rw [HT.out]
        have HX5 := Lib.hid (HX4.out.next hb)
        clear hb HX4 c0 c1 c2 c3 c4 c5 c6 c7
        go_wp2
        go_ret
        exact ⟨rfl, HX5.out.bel⟩
end Go.Proofs.Ytjcfekljdkaaiaa
