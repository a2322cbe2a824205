/- The walk of the law FnTexts. -/
import Derived.Test.YtjcfekljdkaaiaaDoorTextsW
namespace Go.Proofs.YtjcfekljdkaaiaaDoor
open Go.RowKit

set_option maxRecDepth 100000 in
set_option maxHeartbeats 3000000 in
theorem fnTextsWalk (a : Option Addr) (len cap : Nat) (zs : List Int) (w : World) (u : TypeId) (x : Value) (hE : Sent w u x) (h : IsRow .u8 w a len cap zs) :
    Calls Tryd.prog 4 #[.slice a len cap] w fun e w' => e = .returned (.bool true) ∧ Below w.heap.size w w' := by
  have HE := Lib.hid hE
  clear hE
  by_cases hbig : len ≤ 1048576
  · have hsrc := Lib.hid (src_of_row h hbig)
    clear h
    go_enter Tryd.func4, Tryd.ntmps4
    go_wp2_with fail
    refine (bigNo a len cap hbig w).mono ?_
    rintro e w' ⟨rfl, rfl⟩
    go_wp2_with fail
    refine (drawText w w.heap.size a len cap (Nat.le_refl _) hsrc.out).mono ?_
    rintro e w1 ⟨s, hs, rfl, hb1⟩
    go_wp2_with fail
    refine (implText s (by omega) w1).mono ?_
    rintro e w2 ⟨rfl, hb2⟩
    have hB2 : Below w.heap.size w w2 := hb1.trans (hb2.mono hb1.size)
    clear hb1 hb2
    have hbz : (textBytes s).size ≤ 30 := by
      unfold textBytes
      rw [ByteArray.size_append]
      have := (text_fit (s := s) (by omega)).2
      omega
    have HTh := Lib.hid (fun t => text_there s t (by omega))
    have HSp := Lib.hid (fun w => specText s (by omega) w)
    generalize textBytes s = b at hbz HTh HSp ⊢
    go_wp2_with fail
    refine (drawReadText w2 w.heap.size a len cap hB2.size (src_below hsrc.out hB2)).mono ?_
    rintro e w3 ⟨t, ht, rfl, hb3⟩
    have hB3 : Below w.heap.size w w3 := hB2.trans (hb3.mono hB2.size)
    clear hb3 hB2
    obtain ⟨j1, j2, j3⟩ := HTh.out t
    have hbt : (b ++ t).size ≤ 1048576 := by rw [ByteArray.size_append]; omega
    have hbt2 : b.size + t.size ≤ 1048576 := by omega
    have HJ := Lib.hid (fun w hE' => readTextYes (b ++ t) w u x hbt hE' j1)
    rw [j2, j3] at HJ
    clear j1 j2 j3 HTh
    by_cases hok : TxtOk t
    · obtain ⟨k1, k2, k3⟩ := text_again hok
      have K1 := Lib.hid k1
      have HY := Lib.hid (fun w hE' => readTextYes t w u x (by omega) hE' hok)
      have HZ := Lib.hid (fun w => specTextYes t w (by omega) hok)
      clear hok k1
      generalize txt t = v at HY HZ K1 k2 ⊢
      generalize txtEnd t = k at HY HZ K1 k3 ⊢
      go_wp2_with fail
      refine (HY.out _ (HE.out.below hB3)).mono ?_
      rintro e w4 ⟨rfl, hb4⟩
      have hB4 : Below w.heap.size w w4 := hB3.trans (hb4.mono hB3.size)
      clear hb4 hB3
      go_wp2_with fail
      refine (HZ.out _).mono ?_
      rintro e w5 ⟨rfl, hb5⟩
      have hB5 : Below w.heap.size w w5 := hB4.trans (hb5.mono hB4.size)
      clear hb5 hB4
      go_wp2_with fail
      refine (HJ.out _ (HE.out.below hB5)).mono ?_
      rintro e w6 ⟨rfl, hb6⟩
      have hB6 : Below w.heap.size w w6 := hB5.trans (hb6.mono hB5.size)
      clear hb6 hB5
      go_wp2_with fail
      have HV := Lib.hid (fun w => implText v k2 w)
      rw [K1.out] at HV
      have hk0 : (0 : Int) ≤ (k : Int) := by omega
      have hk1 : (k : Int) ≤ (t.size : Int) := by omega
      go_region_held3 (fun _ => True) (trivial) (first | (go_at_call 22; refine (HSp.out _).mono ?_; rintro e w7 ⟨rfl, hb7⟩) | (go_at_call 18; refine (HV.out _).mono ?_; rintro e w8 ⟨rfl, hb8⟩))
      go_wp2
      go_ret
      refine ⟨rfl, ?_⟩
      have hB7 : Below w.heap.size w w7 := hB6.trans ((Below.mk hb7.os hb7.tape hb7.output hb7.size hb7.block : Below w6.heap.size w6 w7).mono hB6.size)
      exact hB7.trans (hb8.mono hB7.size)
    · have HY := Lib.hid (fun w hE' => readTextNo t w u x (by omega) hE' hok)
      have HZ := Lib.hid (fun w => specTextNot t w (by omega) hok)
      clear hok
      go_wp2_with fail
      refine (HY.out _ (HE.out.below hB3)).mono ?_
      rintro e w4 ⟨rfl, hb4⟩
      have hB4 : Below w.heap.size w w4 := hB3.trans (hb4.mono hB3.size)
      clear hb4 hB3
      go_wp2_with fail
      refine (HZ.out _).mono ?_
      rintro e w5 ⟨rfl, hb5⟩
      have hB5 : Below w.heap.size w w5 := hB4.trans (hb5.mono hB4.size)
      clear hb5 hB4
      go_wp2_with fail
      refine (HJ.out _ (HE.out.below hB5)).mono ?_
      rintro e w6 ⟨rfl, hb6⟩
      have hB6 : Below w.heap.size w w6 := hB5.trans (hb6.mono hB5.size)
      clear hb6 hB5
      go_wp2_with fail
      first | (go_region_held (fun _ => True) (trivial) (first | (go_at_call 22; refine (HSp.out _).mono ?_; rintro e w7 ⟨rfl, hb7⟩))) | fail
      all_goals go_wp2
      all_goals go_ret
      all_goals exact ⟨rfl, hB6.trans ((Below.mk hb7.os hb7.tape hb7.output hb7.size hb7.block : Below w6.heap.size w6 w7).mono hB6.size)⟩
  · go_enter Tryd.func4, Tryd.ntmps4
    go_wp2_with fail
    refine (bigYes a len cap hbig w).mono ?_
    rintro e w' ⟨rfl, rfl⟩
    go_wp2
    go_ret
    exact ⟨rfl, Below.refl _ _⟩
end Go.Proofs.YtjcfekljdkaaiaaDoor
