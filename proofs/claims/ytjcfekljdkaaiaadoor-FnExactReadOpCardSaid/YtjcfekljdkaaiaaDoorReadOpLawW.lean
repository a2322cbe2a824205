/- The walk of the law FnExactReadOp. -/
import Derived.Test.YtjcfekljdkaaiaaDoorReadOpW
import Derived.Test.YtjcfekljdkaaiaaDoorSpecReadY
import Derived.Test.YtjcfekljdkaaiaaDoorReadLawW
namespace Go.Proofs.YtjcfekljdkaaiaaDoor
open Go.RowKit

set_option maxRecDepth 100000 in
theorem eqOpSame (dev seq stamp kind : Int) (item : ByteArray) (qty level undos : Int) (w : World) : Calls Tryd.prog 44 #[.agg #[.int .i64 dev, .int .i64 seq, .int .i64 stamp, .int .i64 kind, .string item, .int .i64 qty, .int .i64 level, .int .i64 undos], .agg #[.int .i64 dev, .int .i64 seq, .int .i64 stamp, .int .i64 kind, .string item, .int .i64 qty, .int .i64 level, .int .i64 undos]] w fun e w' => e = .returned (.bool true) ∧ Below w.heap.size w w' := by
  go_enter Tryd.func44, Tryd.ntmps44
  go_wp2
  go_ret
  exact ⟨rfl, ((Below.refl _ _).alloc (Nat.le_refl _) _).alloc (by simp) _⟩
theorem OpIs.eq {s : ByteArray} {p : Nat} {dev seq stamp kind : Int} {item : ByteArray} {qty level undos : Int} {q : Nat} {dev' seq' stamp' kind' : Int} {item' : ByteArray} {qty' level' undos' : Int} {q' : Nat}
    (h : OpIs s p dev seq stamp kind item qty level undos q) (h' : OpIs s p dev' seq' stamp' kind' item' qty' level' undos' q') : dev' = dev ∧ seq' = seq ∧ stamp' = stamp ∧ kind' = kind ∧ item' = item ∧ qty' = qty ∧ level' = level ∧ undos' = undos ∧ q' = q := by
  obtain ⟨n0, q1, n1, q2, n2, q3, n3, q4, q5, n5, q6, n6, q7, n7, h0, h1, h2, h3, h4, h5, h6, h7, rfl, rfl, rfl, rfl, rfl, rfl, rfl, _⟩ := h
  obtain ⟨m0, r1, m1, r2, m2, r3, m3, r4, r5, m5, r6, m6, r7, m7, g0, g1, g2, g3, g4, g5, g6, g7, rfl, rfl, rfl, rfl, rfl, rfl, rfl, _⟩ := h'
  obtain ⟨rfl, rfl⟩ := h0.eq g0
  obtain ⟨rfl, rfl⟩ := h1.eq g1
  obtain ⟨rfl, rfl⟩ := h2.eq g2
  obtain ⟨rfl, rfl⟩ := h3.eq g3
  obtain ⟨rfl, rfl⟩ := h4.eq g4
  obtain ⟨rfl, rfl⟩ := h5.eq g5
  obtain ⟨rfl, rfl⟩ := h6.eq g6
  obtain ⟨rfl, rfl⟩ := h7.eq g7
  exact ⟨rfl, rfl, rfl, rfl, rfl, rfl, rfl, rfl, rfl⟩

set_option maxRecDepth 100000 in
set_option maxHeartbeats 2000000 in
theorem fnExactReadOpWalk (s : ByteArray) (w : World) (u : TypeId) (x : Value) (hE : Sent w u x) (_hw : s.size ≤ maxLen) : Calls Tryd.prog 9 #[.string s] w fun e w' => e = .returned (.bool true) ∧ Below w.heap.size w w' := by
  have HE := Lib.hid hE
  clear hE
  by_cases hbig : s.size ≤ 1048576
  · go_enter Tryd.func9, Tryd.ntmps9
    go_wp2_with fail
    refine (specReadOp s hbig _).mono ?_
    rintro e w1 ⟨hb1, ⟨dev, seq, stamp, kind, item, qty, level, undos, q, his, rfl⟩ | ⟨hno, rfl⟩⟩
    · have HIs := Lib.hid his
      clear his
      have HB1 := Lib.hid hb1
      clear hb1
      go_wp2_with fail
      have hxb := boxAt (Below.refl _ (w1.alloc (.cells #[.int .i64 dev, .int .i64 seq, .int .i64 stamp, .int .i64 kind, .string item, .int .i64 qty, .int .i64 level, .int .i64 undos] 43)))
      have HB2 := Lib.hid (HB1.out.alloc HB1.out.size (.cells #[.int .i64 dev, .int .i64 seq, .int .i64 stamp, .int .i64 kind, .string item, .int .i64 qty, .int .i64 level, .int .i64 undos] 43))
      generalize w1.alloc (.cells #[.int .i64 dev, .int .i64 seq, .int .i64 stamp, .int .i64 kind, .string item, .int .i64 qty, .int .i64 level, .int .i64 undos] 43) = w2 at hxb HB2 ⊢
      generalize w1.heap.size = b1 at hxb ⊢
      have HX2 := Lib.hid hxb
      clear hxb HB1
      refine (implReadOp s _ u x hbig (HE.out.below HB2.out)).mono ?_
      rintro e w3 ⟨hb3, ⟨dev', seq', stamp', kind', item', qty', level', undos', q', his', rfl⟩ | ⟨hno', rfl⟩⟩
      rotate_left
      · exact absurd HIs.out (hno' _ _ _ _ _ _ _ _ _)
      obtain ⟨rfl, rfl, rfl, rfl, rfl, rfl, rfl, rfl, rfl⟩ := HIs.out.eq his'
      clear his'
      have HX3 := Lib.hid ((hb3.block _ (Array.getElem?_eq_some_iff.1 HX2.out).1).trans HX2.out)
      have HB3 := Lib.hid (HB2.out.trans (hb3.mono HB2.out.size))
      clear hb3 HX2 HB2
      go_upto_region 5 with fail
      have hya := boxAt (Below.refl _ (w3.alloc (.cells #[.int .i64 dev', .int .i64 seq', .int .i64 stamp', .int .i64 kind', .string item', .int .i64 qty', .int .i64 level', .int .i64 undos'] 43)))
      have hyb := (Below.heap_alloc w3 (.cells #[.int .i64 dev', .int .i64 seq', .int .i64 stamp', .int .i64 kind', .string item', .int .i64 qty', .int .i64 level', .int .i64 undos'] 43) b1 (Array.getElem?_eq_some_iff.1 HX3.out).1).trans HX3.out
      have HB4 := Lib.hid (HB3.out.alloc HB3.out.size (.cells #[.int .i64 dev', .int .i64 seq', .int .i64 stamp', .int .i64 kind', .string item', .int .i64 qty', .int .i64 level', .int .i64 undos'] 43))
      generalize w3.alloc (.cells #[.int .i64 dev', .int .i64 seq', .int .i64 stamp', .int .i64 kind', .string item', .int .i64 qty', .int .i64 level', .int .i64 undos'] 43) = w5 at hya hyb HB4 ⊢
      generalize w3.heap.size = b3 at hya ⊢
      obtain ⟨c0, c1, c2, c3, c4, c5, c6, c7⟩ := op_cells hya
      obtain ⟨d0, d1, d2, d3, d4, d5, d6, d7⟩ := op_cells hyb
      clear hya hyb
      go_wp2_with fail
      refine (eqOpSame _ _ _ _ _ _ _ _ _).mono ?_
      rintro e w4 ⟨rfl, hb4⟩
      have HB6 := Lib.hid (HB4.out.trans (hb4.mono HB4.out.size))
      clear hb4 c0 c1 c2 c3 c4 c5 c6 c7 d0 d1 d2 d3 d4 d5 d6 d7
      go_wp2
      go_ret
      exact ⟨rfl, HB6.out⟩
    · have HNo := Lib.hid hno
      clear hno
      have HB1 := Lib.hid hb1
      clear hb1
      go_wp2_with fail
      have hxb := boxAt (Below.refl _ (w1.alloc (.cells #[.int .i64 0, .int .i64 0, .int .i64 0, .int .i64 0, .string ⟨#[]⟩, .int .i64 0, .int .i64 0, .int .i64 0] 43)))
      have HB2 := Lib.hid (HB1.out.alloc HB1.out.size (.cells #[.int .i64 0, .int .i64 0, .int .i64 0, .int .i64 0, .string ⟨#[]⟩, .int .i64 0, .int .i64 0, .int .i64 0] 43))
      generalize w1.alloc (.cells #[.int .i64 0, .int .i64 0, .int .i64 0, .int .i64 0, .string ⟨#[]⟩, .int .i64 0, .int .i64 0, .int .i64 0] 43) = w2 at hxb HB2 ⊢
      generalize w1.heap.size = b1 at hxb ⊢
      have HX2 := Lib.hid hxb
      clear hxb HB1
      refine (implReadOp s _ u x hbig (HE.out.below HB2.out)).mono ?_
      rintro e w3 ⟨hb3, ⟨dev', seq', stamp', kind', item', qty', level', undos', q', his', rfl⟩ | ⟨hno', rfl⟩⟩
      · exact absurd his' (HNo.out _ _ _ _ _ _ _ _ _)
      clear hno'
      have HX3 := Lib.hid ((hb3.block _ (Array.getElem?_eq_some_iff.1 HX2.out).1).trans HX2.out)
      have HB3 := Lib.hid (HB2.out.trans (hb3.mono HB2.out.size))
      clear hb3 HX2 HB2
      go_upto_region 5 with fail
      have hya := boxAt (Below.refl _ (w3.alloc (.cells #[.int .i64 0, .int .i64 0, .int .i64 0, .int .i64 0, .string ⟨#[]⟩, .int .i64 0, .int .i64 0, .int .i64 0] 43)))
      have hyb := (Below.heap_alloc w3 (.cells #[.int .i64 0, .int .i64 0, .int .i64 0, .int .i64 0, .string ⟨#[]⟩, .int .i64 0, .int .i64 0, .int .i64 0] 43) b1 (Array.getElem?_eq_some_iff.1 HX3.out).1).trans HX3.out
      have HB4 := Lib.hid (HB3.out.alloc HB3.out.size (.cells #[.int .i64 0, .int .i64 0, .int .i64 0, .int .i64 0, .string ⟨#[]⟩, .int .i64 0, .int .i64 0, .int .i64 0] 43))
      generalize w3.alloc (.cells #[.int .i64 0, .int .i64 0, .int .i64 0, .int .i64 0, .string ⟨#[]⟩, .int .i64 0, .int .i64 0, .int .i64 0] 43) = w5 at hya hyb HB4 ⊢
      generalize w3.heap.size = b3 at hya ⊢
      obtain ⟨c0, c1, c2, c3, c4, c5, c6, c7⟩ := op_cells hya
      obtain ⟨d0, d1, d2, d3, d4, d5, d6, d7⟩ := op_cells hyb
      clear hya hyb
      go_wp2_with fail
      refine (eqOpSame _ _ _ _ _ _ _ _ _).mono ?_
      rintro e w4 ⟨rfl, hb4⟩
      have HB6 := Lib.hid (HB4.out.trans (hb4.mono HB4.out.size))
      clear hb4 c0 c1 c2 c3 c4 c5 c6 c7 d0 d1 d2 d3 d4 d5 d6 d7
      go_wp2
      go_ret
      exact ⟨rfl, HB6.out⟩
  · go_enter Tryd.func9, Tryd.ntmps9
    go_wp2
    go_ret
    exact ⟨rfl, Below.refl _ _⟩
end Go.Proofs.YtjcfekljdkaaiaaDoor
