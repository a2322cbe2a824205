/- The law FnExactTakeFrames. -/
import Derived.Test.YtdmhibdhnejiiabTakeS
namespace Go.Proofs.Ytdmhibdhnejiiab
open Go.RowKit
set_option linter.unusedVariables false

theorem takeF_len (s : ByteArray) : ∀ f at_ out, at_ ≤ s.size → 8 * out.length ≤ at_ → 8 * (takeF s f at_ out).1.length ≤ s.size ∧ (takeF s f at_ out).2 ≤ s.size
  | 0, at_, out, h1, h2 => ⟨by show 8 * out.length ≤ _; omega, h1⟩
  | f + 1, at_, out, h1, h2 => by
    show 8 * (if _ then _ else _ : List ByteArray × Nat).1.length ≤ _ ∧ (if _ then _ else _ : List ByteArray × Nat).2 ≤ _
    split
    · rename_i h
      have := frame_size h
      exact takeF_len s f _ _ this.1 (by rw [List.length_append, List.length_singleton]; omega)
    · exact ⟨by show 8 * out.length ≤ _; omega, h1⟩
set_option maxRecDepth 100000 in
set_option maxHeartbeats 2000000 in
theorem fnExactTakeFramesWalk (s : ByteArray) (w : World) (_hw : s.size ≤ maxLen) :
    Calls Try.prog 4 #[.string s] w fun e w' => e = .returned (.bool true) ∧ Below w.heap.size w w' := by
  by_cases hbig : s.size ≤ 1048576
  rotate_left
  · go_enter Try.func4, Try.ntmps4
    go_wp2
    go_ret
    exact ⟨rfl, Below.refl _ _⟩
  have hN : (framesOf s).length ≤ 131072 := by
    have := (takeF_len s (s.size + 1) 0 [] (Nat.zero_le _) (by simp)).1
    unfold framesOf
    omega
  have C1 := fun w => Lib.hid (specTake s hbig w)
  have C2 := fun w => Lib.hid (implTake s hbig w)
  generalize framesOf s = L at C1 C2 hN
  generalize framesEnd s = E at C1 C2
  obtain ⟨n, hn⟩ : ∃ n, n = L.length := ⟨_, rfl⟩
  skip
  go_enter Try.func4, Try.ntmps4
  go_wp2_with fail
  refine (C1 _).out.mono ?_
  rintro e w1 ⟨⟨a1, c1, rfl, ho1⟩, hb1⟩
  have HB1 := Lib.hid hb1
  have HS1 := Lib.hid ho1.strs
  clear hb1 ho1
  go_wp2_with fail
  refine (C2 _).out.mono ?_
  rintro e w2 ⟨⟨a2, c2, rfl, ho2⟩, hb2⟩
  have HB2 := Lib.hid (HB1.out.trans (hb2.mono HB1.out.size))
  have HS2 := Lib.hid (HS1.out.below hb2 (Nat.le_refl _))
  have HO2 := Lib.hid ho2
  have z1 := HB1.out.size
  have z2 := hb2.size
  clear hb2 ho2 HB1 HS1
  go_wp2_with fail
  refine (eqStrs w2 w2.heap.size w1.heap.size a2 a1 L.length c2 L.length c1 L L HO2.out.strs HS2.out (by omega) (by omega)).mono ?_
  rintro e w3 ⟨rfl, nq, rfl⟩
  rw [show decide (L = L) = true from decide_eq_true rfl]
  go_wp2_with fail
  refine (markStrs (w2.drewN nq) w1.heap.size w2.heap.size a2 L.length c2 L (HO2.out.kept fun _ _ _ => rfl) (Nat.le_refl _) 1 (by omega) (by omega) (by omega)).mono ?_
  rintro e w4 ⟨⟨m, hm, rfl⟩, ho4, hs4⟩
  have HB4 : Hid (Below w.heap.size w w4) := HB2.out.trans (((show Below w2.heap.size w2 (w2.drewN nq) from ⟨rfl, rfl, rfl, Nat.le_refl _, fun _ _ => rfl⟩).mono (Nat.le_trans z1 z2)).trans ((hs4.below (B := w1.heap.size) (Nat.le_refl _) z2).mono z1))
  have HO4 := Lib.hid ho4
  have z4 : w2.heap.size ≤ w4.heap.size := hs4.size
  have HS4 := Lib.hid (HS2.out.kept (w' := w4) fun k hk => hs4.block k (by show k < w2.heap.size; omega) (.inl hk))
  have HM := Lib.hid hm
  clear ho4 hs4 HO2 HS2 HB2 hm
  go_wp2_with fail
  refine (heldStrs w4 w2.heap.size a2 L.length c2 1 HO4.out.strs z4 (by omega) (by omega) (by omega)).mono ?_
  rintro e w5 ⟨rfl, hb5⟩
  have HB5 := Lib.hid (HB4.out.trans (hb5.mono HB4.out.size))
  have HO5 := Lib.hid (HO4.out.below hb5 z4)
  have HS5 := Lib.hid (HS4.out.below hb5 (by omega))
  have z5 := hb5.size
  clear hb5 HB4 HO4 HS4
  have hm1 : m = 1 + L.length := HM.out
  have hq : ((1 + L.length : Nat) : Int) = (m : Int) := by omega
  have hq0 : ¬ (m : Int) < 0 := by omega
  rw [hq]
  have HQ := Lib.hid hq
  clear hq hm1
  go_wp2_with fail
  refine (C2 _).out.mono ?_
  rintro e w6 ⟨⟨a6, c6, rfl, ho6⟩, hb6⟩
  have HB6 := Lib.hid (HB5.out.trans (hb6.mono HB5.out.size))
  have HO6 := Lib.hid (HO5.out.below hb6 (by omega))
  have HS6 := Lib.hid (HS5.out.below hb6 (by omega))
  have HP6 := Lib.hid ho6.strs
  have z6 := hb6.size
  clear hb6 HB5 HO5 HS5 ho6
  go_wp2_with fail
  refine (eqStrs w6 w6.heap.size w1.heap.size a6 a1 L.length c6 L.length c1 L L HP6.out HS6.out (by omega) (by omega)).mono ?_
  rintro e w7 ⟨rfl, nr, rfl⟩
  rw [show decide (L = L) = true from decide_eq_true rfl]
  go_wp2_with fail
  refine (heldStrs (w6.drewN nr) w2.heap.size a2 L.length c2 1 (HO6.out.strs.kept fun _ _ => rfl) (by show _ ≤ w6.heap.size; omega) (by omega) (by omega) (by omega)).mono ?_
  rintro e w8 ⟨rfl, hb8⟩
  rw [HQ.out]
  have HB8 : Hid (Below w.heap.size w w8) := HB6.out.trans ((show Below w6.heap.size w6 w8 from ⟨hb8.os, hb8.tape, hb8.output, hb8.size, hb8.block⟩).mono HB6.out.size)
  clear hb8
  go_wp2
  go_ret
  exact ⟨rfl, HB8.out⟩
end Go.Proofs.Ytdmhibdhnejiiab
