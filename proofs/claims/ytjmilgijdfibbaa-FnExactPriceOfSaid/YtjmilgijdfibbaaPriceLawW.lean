/- The walk of the law FnExactPriceOf. -/
import Derived.Test.YtjmilgijdfibbaaFindPr
import Derived.Deep.Cut
namespace Go.Proofs.Ytjmilgijdfibbaa
open Go.RowKit
set_option linter.unusedVariables false

theorem priceP_one (l : List PrV) (s : ByteArray) : ∃ (v : Int) (b : Bool), ∀ w e w', PriceP l s w e w' → e = .returned (.tuple #[.int .i64 v, .bool b]) ∧ Below w.heap.size w w' := by
  rcases hok : PrsB l with _ | _
  · refine ⟨0, false, fun w e w' h => ?_⟩
    obtain ⟨⟨h1, _⟩ | ⟨_, h2⟩, hb⟩ := h
    · rw [hok] at h1; cases h1
    · exact ⟨h2, hb⟩
  · by_cases hx : ∃ (o : PrV) (b : Bool), PriceIs l s o b
    · obtain ⟨o, b, hp⟩ := hx
      refine ⟨o.cents, b, fun w e w' h => ?_⟩
      obtain ⟨⟨_, o', b', rfl, hp'⟩ | ⟨h1, _⟩, hb⟩ := h
      · obtain ⟨rfl, rfl⟩ := priceIs_one (incP_of hok) hp hp'
        exact ⟨rfl, hb⟩
      · rw [hok] at h1; cases h1
    · refine ⟨0, false, fun w e w' h => ?_⟩
      obtain ⟨⟨_, o', b', rfl, hp'⟩ | ⟨h1, _⟩, hb⟩ := h
      · exact absurd ⟨o', b', hp'⟩ hx
      · rw [hok] at h1; cases h1
set_option maxRecDepth 100000 in
set_option maxHeartbeats 2000000 in
theorem fnExactPriceOfWalk (a : Option Addr) (n c : Nat) (l : List PrV) (s : ByteArray) (w : World) (h : Prs w w.heap.size a n l) (hn : n ≤ maxLen) (hm : ∀ i, i < n → (l.getD i PrV.zero).item.size ≤ maxLen) (hs : s.size ≤ maxLen) : Calls Try.prog 6 #[.slice a n c, .string s] w fun e w' => e = .returned (.bool true) ∧ Below w.heap.size w w' := by
  have H := Lib.hid h
  have HL := Lib.hid h.1
  clear h
  obtain ⟨v, bb, hvb⟩ := priceP_one l s
  have HVB := Lib.hid hvb
  clear hvb
  unfold maxLen at hs
  go_enter Try.func6, Try.ntmps6
  by_cases hbs : 1048576 < s.size
  · have hbi : ((s.size : Int) > 1048576) := by omega
    go_wp2
    go_ret
    exact ⟨rfl, Below.refl _ _⟩
  have hbi : ¬ ((s.size : Int) > 1048576) := by omega
  go_wp2_with fail
  refine (szPrs w w.heap.size a n c l H.out (Nat.le_refl _) hn hm 1048576 (Nat.le_refl _)).mono ?_
  rintro e w1 ⟨rfl, hb1⟩
  have H1 := Lib.hid (H.out.below hb1 (Nat.le_refl _))
  have HB1 := Lib.hid hb1
  have hs1 := hb1.size
  clear hb1 hm
  by_cases hbig : PrTotal l ≤ 1048576
  rotate_left
  · rw [if_neg hbig]
    go_wp2
    go_ret
    exact ⟨rfl, HB1.out⟩
  rw [if_pos hbig]
  obtain ⟨hll, hit⟩ := Pr_fit hbig
  have hno : n ≤ 1048576 := by rw [← HL.out]; exact hll
  have HIt : Hid (∀ i, i < l.length → (atPr l i).item.size ≤ 1048576) := hit
  have hd : decide (((1048576 - PrTotal l : Nat) : Int) < 0) = false := decide_eq_false (by omega)
  clear hit hbig
  generalize 1048576 - PrTotal l = lf at hd ⊢
  go_wp2_with fail
  refine (toPrs w1 w.heap.size a n c l H1.out hs1 hno).mono ?_
  rintro e w2 ⟨rfl, ho2, hz2, hb2⟩
  have H2 := Lib.hid (H1.out.below hb2 hs1)
  have HB2 := Lib.hid (HB1.out.trans (hb2.mono hs1))
  have HO2 := Lib.hid ho2
  have hs2 := hb2.size
  clear ho2 hb2
  go_wp2_with fail
  refine (specPriceOf w2 w2.heap.size _ _ _ l s HO2.out (Nat.le_refl _) hll HIt.out).mono ?_
  rintro e w3 hp
  obtain ⟨rfl, hb3⟩ := HVB.out _ _ _ hp
  have H3 := Lib.hid (H2.out.below hb3 (by omega))
  have HB3 := Lib.hid (HB2.out.trans (hb3.mono HB2.out.size))
  have hs3 := hb3.size
  clear hb3 HO2 hp
  go_wp2_with fail
  refine (toPrs w3 w.heap.size a n c l H3.out (by omega) hno).mono ?_
  rintro e w4 ⟨rfl, ho4, hz4, hb4⟩
  have H4 := Lib.hid (H3.out.below hb4 (by omega))
  have HB4 := Lib.hid (HB3.out.trans (hb4.mono HB3.out.size))
  have HO4 := Lib.hid ho4
  have hs4 := hb4.size
  clear ho4 hb4
  go_wp2_with fail
  refine (implPriceOf w4 w4.heap.size _ _ _ l s HO4.out (Nat.le_refl _) hll).mono ?_
  rintro e w5 hp
  obtain ⟨rfl, hb5⟩ := HVB.out _ _ _ hp
  have H5 := Lib.hid (H4.out.below hb5 (by omega))
  have HO5 := Lib.hid (HO4.out.below hb5 (Nat.le_refl _))
  have HB5 := Lib.hid (HB4.out.trans (hb5.mono HB4.out.size))
  have hs5 := hb5.size
  clear hb5 HO4 hp
  have hcb : (bb != bb) = false := bne_self_eq_false _
  have hcv : (v != v) = false := bne_self_eq_false _
  go_wp2_with fail
  refine (toPrs w5 w.heap.size a n c l H5.out (by omega) hno).mono ?_
  rintro e w6 ⟨rfl, ho6, hz6, hb6⟩
  have HO6 := Lib.hid ho6
  have HX6 := Lib.hid (HO5.out.below hb6 hs5)
  have HB6 := Lib.hid (HB5.out.trans (hb6.mono HB5.out.size))
  have hs6 := hb6.size
  clear ho6 hb6
  go_wp2_with fail
  refine (eqPrs w6 w4.heap.size w6.heap.size _ _ _ _ _ l HX6.out HO6.out (by omega) (Nat.le_refl _) hll).mono ?_
  rintro e w7 ⟨rfl, hb7⟩
  have HB7 := Lib.hid (HB6.out.trans (hb7.mono HB6.out.size))
  clear hb7
  go_wp2
  go_ret
  exact ⟨rfl, HB7.out⟩
end Go.Proofs.Ytjmilgijdfibbaa
