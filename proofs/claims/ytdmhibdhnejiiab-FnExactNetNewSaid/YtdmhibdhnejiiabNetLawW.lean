/- The walk of the law FnExactNetNew. -/
import Derived.Test.YtdmhibdhnejiiabNetE
namespace Go.Proofs.Ytdmhibdhnejiiab
open Go.RowKit

set_option maxRecDepth 100000 in
theorem implNetNew (w : World) : Calls Try.prog 19 #[] w (NetPost w) := by
  have HA := Lib.hid ((Below.refl _ w).alloc (Nat.le_refl _) (.cells #[.slice none 0 0, .slice none 0 0] 35))
  have hza : (w.alloc (.cells #[.slice none 0 0, .slice none 0 0] 35)).heap.size = w.heap.size + 1 := by show (w.heap.push _).size = _; simp
  go_enter Try.func19, Try.ntmps19
  go_wp2_with fail
  refine (implCartNew _).mono ?_
  rintro e w1 ⟨a, cap, rfl, ho, hb⟩
  obtain ⟨q, rfl, hq1, hq2, hq3, hoq⟩ := ho.exact
  have HO := Lib.hid hoq
  have hx := boxAt hb
  have hs1 := hb.size
  have HB1 := Lib.hid (box_below hb)
  have HX := Lib.hid hx
  clear ho hoq hb hx
  go_wp2_with fail
  refine (uniformNet w1 (q + 1) q cap HO.out.ints (by omega)).mono ?_
  rintro e w2 ⟨g, c, l, rfl, hl, hn, hb2⟩
  have hR := (hb2.block w.heap.size (by omega)).trans HX.out
  have HB2 := Lib.hid (HB1.out.trans (hb2.mono HB1.out.size))
  obtain ⟨c0, c1⟩ := pair_cells hR
  obtain ⟨f0, f1⟩ := pair_frozen hR
  have HXf := Lib.hid (pair_set (.slice (some ⟨g, 0, none⟩) 4 c) (.slice none 0 0) hR)
  have HNf : Hid (NetAt ((w2.setCell ⟨w.heap.size, 0, none⟩ (.slice (some ⟨g, 0, none⟩) 4 c)).setCell ⟨w.heap.size, 1, none⟩ (.slice none 0 0)) w.heap.size g l (fun _ => zeros4)) := (hn.other (pair_size _ _ _ _).symm fun j hj => pair_other _ _ (by omega)).more (by omega)
  have HBf : Hid (Below w.heap.size w ((w2.setCell ⟨w.heap.size, 0, none⟩ (.slice (some ⟨g, 0, none⟩) 4 c)).setCell ⟨w.heap.size, 1, none⟩ (.slice none 0 0))) := (HB2.out.setCell (by show _ ≤ w.heap.size; omega) _).setCell (by show _ ≤ w.heap.size; omega) _
  clear hR hn hb2
  go_wp2
  generalize (w2.setCell ⟨w.heap.size, 0, none⟩ (.slice (some ⟨g, 0, none⟩) 4 c)).setCell ⟨w.heap.size, 1, none⟩ (.slice none 0 0) = wf at HXf HNf HBf ⊢
  obtain ⟨d0, d1⟩ := pair_cells HXf.out
  exact bodyPost_ret (v := .agg #[.slice (some ⟨g, 0, none⟩) 4 c, .slice none 0 0]) (by simp [results, Try.results19, go_sem, d0, d1]) rfl ⟨g, c, l, rfl, hl, HNf.out, HBf.out⟩

def NetBox (w : World) (b g c : Nat) : Prop := w.heap[b]? = some (.cells #[.slice (some ⟨g, 0, none⟩) 4 c, .slice none 0 0] 35 (0, 0))
theorem NetBox.below {w w' : World} {b g c : Nat} (h : NetBox w b g c) (hb : Below w.heap.size w w') : NetBox w' b g c := (hb.block _ (lt_of_row h)).trans h

set_option maxRecDepth 100000 in
set_option maxHeartbeats 4000000 in
theorem fnExactNetNewWalk (w : World) : Calls Try.prog 6 #[] w fun e w' => e = .returned (.bool true) ∧ Below w.heap.size w w' := by
  go_enter Try.func6, Try.ntmps6
  go_wp2_with fail
  refine (specNetNew w).mono ?_
  rintro e w1 ⟨g1, c1, l1, rfl, hl1, hn1, hb1⟩
  go_upto_region 2 with fail
  have hal : Below w1.heap.size w1 (w1.alloc (.cells #[.slice (some ⟨g1, 0, none⟩) 4 c1, .slice none 0 0] 35)) := (Below.refl _ _).alloc (Nat.le_refl _) _
  have K1 : Hid (NetBox (w1.alloc (.cells #[.slice (some ⟨g1, 0, none⟩) 4 c1, .slice none 0 0] 35)) w1.heap.size g1 c1) := boxAt (Below.refl _ _)
  have N1 := Lib.hid (hn1.kept hal)
  have BB := Lib.hid (hb1.trans (hal.mono hb1.size))
  clear hn1 hb1
  generalize w1.alloc (.cells #[.slice (some ⟨g1, 0, none⟩) 4 c1, .slice none 0 0] 35) = w2 at hal K1 N1 BB ⊢
  generalize w1.heap.size = b1 at K1 hal ⊢
  clear hal
  go_wp2_with fail
  refine (implNetNew w2).mono ?_
  rintro e w3 ⟨g2, c2, l2, rfl, hl2, hn2, hb3⟩
  go_upto_region 3 with fail
  have hal : Below w3.heap.size w3 (w3.alloc (.cells #[.slice (some ⟨g2, 0, none⟩) 4 c2, .slice none 0 0] 35)) := (Below.refl _ _).alloc (Nat.le_refl _) _
  have K2 : Hid (NetBox (w3.alloc (.cells #[.slice (some ⟨g2, 0, none⟩) 4 c2, .slice none 0 0] 35)) w3.heap.size g2 c2) := boxAt (Below.refl _ _)
  have N2 := Lib.hid (hn2.kept hal)
  have V2 : Hid (∀ i, i < l2.length → w3.heap.size ≠ (cAt l2 i).1) := fun i hi => by have := (hn2.own hi).1; omega
  have D2 := Lib.hid (hb3.trans (hal.mono hb3.size))
  have hs3 := hb3.size
  clear hn2 hb3
  generalize w3.alloc (.cells #[.slice (some ⟨g2, 0, none⟩) 4 c2, .slice none 0 0] 35) = w4 at hal K2 N2 D2 ⊢
  generalize w3.heap.size = b2 at K2 hal V2 hs3 ⊢
  clear hal
  have K14 := Lib.hid (K1.out.below D2.out)
  have N14 := Lib.hid (N1.out.kept D2.out)
  obtain ⟨x10, x11⟩ := pair_cells K14.out
  obtain ⟨x20, x21⟩ := pair_cells K2.out
  go_wp2_with fail
  refine (eqNets w4 _ _ _ _ _ _ _ _ hl2 hl1 N2.out N14.out).mono ?_
  rintro e w5 ⟨rfl, hb5⟩
  have K25 := Lib.hid (K2.out.below hb5)
  have N25 := Lib.hid (N2.out.kept hb5)
  have hs4 := D2.out.size
  have hs5 := hb5.size
  have D5 := Lib.hid (D2.out.trans (hb5.mono hs4))
  clear hb5 x10 x11 x20 x21 K14 N14 K2 N2 D2
  obtain ⟨x20, x21⟩ := pair_cells K25.out
  go_wp2_with fail
  refine (markNets w5 _ _ _ _ hl2 N25.out (by omega)).mono ?_
  rintro e w6 ⟨rfl, hn6, hb6, hr6⟩
  have N6 := Lib.hid hn6
  have D6 := Lib.hid (D5.out.trans hb6)
  have K6 : Hid (NetBox w6 b2 g2 c2) := (hr6 b2 (lt_of_row K25.out) V2.out).trans K25.out
  clear hn6 hb6 hr6 x20 x21 K25 N25 D5
  obtain ⟨x20, x21⟩ := pair_cells K6.out
  go_wp2_with fail
  refine (heldNets w6 _ _ _ _ hl2 N6.out).mono ?_
  rintro e w7 ⟨rfl, hb7⟩
  have N7 := Lib.hid (N6.out.kept hb7)
  have K7 := Lib.hid (K6.out.below hb7)
  have D7 := Lib.hid (D6.out.trans (hb7.mono D6.out.size))
  clear hb7 x20 x21 N6 D6 K6
  go_wp2_with fail
  refine (implNetNew w7).mono ?_
  rintro e w8 ⟨g3, c3, l3, rfl, hl3, hn3, hb8⟩
  go_upto_region 14 with fail
  have hal : Below w8.heap.size w8 (w8.alloc (.cells #[.slice (some ⟨g3, 0, none⟩) 4 c3, .slice none 0 0] 35)) := (Below.refl _ _).alloc (Nat.le_refl _) _
  have K3 : Hid (NetBox (w8.alloc (.cells #[.slice (some ⟨g3, 0, none⟩) 4 c3, .slice none 0 0] 35)) w8.heap.size g3 c3) := boxAt (Below.refl _ _)
  have N3 := Lib.hid (hn3.kept hal)
  have hb9 := hb8.trans (hal.mono hb8.size)
  have N9 := Lib.hid (N7.out.kept hb9)
  have K9 := Lib.hid (K7.out.below hb9)
  have D9 := Lib.hid (D7.out.trans (hb9.mono D7.out.size))
  clear hn3 hb8 hb9 N7 K7 D7
  generalize w8.alloc (.cells #[.slice (some ⟨g3, 0, none⟩) 4 c3, .slice none 0 0] 35) = w9 at hal K3 N3 N9 K9 D9 ⊢
  generalize w8.heap.size = b3 at K3 hal ⊢
  clear hal
  have K19 := Lib.hid (K1.out.below D9.out)
  have N19 := Lib.hid (N1.out.kept D9.out)
  obtain ⟨x10, x11⟩ := pair_cells K19.out
  obtain ⟨x30, x31⟩ := pair_cells K3.out
  go_wp2_with fail
  refine (eqNets w9 _ _ _ _ _ _ _ _ hl3 hl1 N3.out N19.out).mono ?_
  rintro e w10 ⟨rfl, hb10⟩
  have N10 := Lib.hid (N9.out.kept hb10)
  have K10 := Lib.hid (K9.out.below hb10)
  have D10 := Lib.hid (D9.out.trans (hb10.mono D9.out.size))
  clear hb10 x10 x11 x30 x31 N9 K9 D9 K19 N19
  obtain ⟨x20, x21⟩ := pair_cells K10.out
  go_wp2_with fail
  refine (heldNets w10 _ _ _ _ hl2 N10.out).mono ?_
  rintro e w11 ⟨rfl, hb11⟩
  have HZ := Lib.hid (BB.out.trans ((D10.out.trans (hb11.mono D10.out.size)).mono BB.out.size))
  clear hb11 x20 x21
  go_wp2
  go_ret
  exact ⟨rfl, HZ.out⟩
end Go.Proofs.Ytdmhibdhnejiiab
