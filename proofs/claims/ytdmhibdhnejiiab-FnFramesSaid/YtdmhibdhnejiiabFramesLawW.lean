/- The law FnFrames. -/
import Derived.Test.YtdmhibdhnejiiabFrameD
namespace Go.Proofs.Ytdmhibdhnejiiab
open Go.RowKit
set_option linter.unusedVariables false

theorem src_row {w : World} {a : Option Addr} {len cap : Nat} {zs : List Int} (h : IsRow .u8 w a len cap zs) (hl : len ≤ 1048576) : Src w w.heap.size a len := by
  refine ⟨hl, fun i hi => ?_⟩
  rcases h with ⟨_, rfl, _⟩ | ⟨x, rfl, hlc, _, hz, hc, hw⟩
  · omega
  · have hci := hc i (by omega)
    obtain ⟨b, off, rfl⟩ := add_plain (hc 0 (by omega))
    rw [add_at] at hci
    have hr := bounds_u8 (hw (zs.getD i 0) (by rw [List.getD_eq_getElem?_getD, List.getElem?_eq_getElem (by omega)]; simp))
    refine ⟨b, off, (zs.getD i 0).toNat, rfl, block_lt_of_cell hci, by omega, ?_⟩
    rw [hci, Int.toNat_of_nonneg hr.1]
theorem catF_app : ∀ (y x : List ByteArray), ∃ z, catF (x ++ y) = catF x ++ z
  | [], x => ⟨⟨#[]⟩, by rw [List.append_nil]; exact ByteArray.append_empty.symm⟩
  | d :: y, x => by
    obtain ⟨z, hz⟩ := catF_app y (x ++ [d])
    exact ⟨frameStr d ++ z, by rw [show x ++ d :: y = x ++ [d] ++ y by simp, hz, catF_snoc, ByteArray.append_assoc]⟩
theorem catF_le (L : List ByteArray) (k : Nat) : (catF (L.take k)).size ≤ (catF L).size := by
  obtain ⟨z, hz⟩ := catF_app (L.drop k) (L.take k)
  rw [List.take_append_drop] at hz
  rw [hz, ByteArray.size_append]
  omega
theorem bigNoF (a : Option Addr) (len cap : Nat) (h : len ≤ 1048576) (w : World) :
    Calls Try.prog 14 #[.slice a len cap] w fun e w' => e = .returned (.bool false) ∧ w = w' := by
  have hd : decide ((1048576 : Int) < (len : Int)) = false := decide_eq_false (by omega)
  go_enter Try.func14, Try.ntmps14
  go_wp2
  go_ret
  exact ⟨rfl, rfl⟩
theorem bigYesF (a : Option Addr) (len cap : Nat) (h : ¬ len ≤ 1048576) (w : World) :
    Calls Try.prog 14 #[.slice a len cap] w fun e w' => e = .returned (.bool true) ∧ w = w' := by
  have hd : decide ((1048576 : Int) < (len : Int)) = true := decide_eq_true (by omega)
  go_enter Try.func14, Try.ntmps14
  go_wp2
  go_ret
  exact ⟨rfl, rfl⟩

set_option maxRecDepth 100000 in
set_option maxHeartbeats 4000000 in
theorem fnFramesWalk (a : Option Addr) (len cap : Nat) (zs : List Int) (w : World) (h : IsRow .u8 w a len cap zs) :
    Calls Try.prog 5 #[.slice a len cap] w fun e w' => e = .returned (.bool true) ∧ Below w.heap.size w w' := by
  by_cases hbig : len ≤ 1048576
  rotate_left
  · go_enter Try.func5, Try.ntmps5
    go_wp2_with fail
    refine (bigYesF a len cap hbig w).mono ?_
    rintro e w' ⟨rfl, rfl⟩
    go_wp2
    go_ret
    exact ⟨rfl, Below.refl _ _⟩
  have HSR := Lib.hid (src_row h hbig)
  clear h
  go_enter Try.func5, Try.ntmps5
  go_wp2_with fail
  refine (bigNoF a len cap hbig w).mono ?_
  rintro e w' ⟨rfl, rfl⟩
  go_wp2_with fail
  refine (drawTake w a len cap HSR.out).mono ?_
  rintro e w1 ⟨s, hs, rfl, hb1⟩
  have HB1 := Lib.hid hb1
  clear hb1
  obtain ⟨m1, m2, m3⟩ := cat_frames s
  have M1 := Lib.hid m1
  have M3 := Lib.hid m3
  have HMore := fun t ht => Lib.hid (frames_more s t ht)
  have HPart := fun k hk => Lib.hid (frames_part s k hk)
  have hL0 : (framesOf s).length ≤ 100 := by
    have := (takeF_len s (s.size + 1) 0 [] (Nat.zero_le _) (by simp)).1
    unfold framesOf
    omega
  have C1 := fun w => Lib.hid (implTakeC s (by omega) w)
  have C2 := fun w => Lib.hid (specTake s (by omega) w)
  generalize framesOf s = L at M1 M3 HMore HPart hL0 C1 C2
  generalize framesEnd s = E at M1 m2 HMore C1 C2
  clear m1 m3
  go_wp2_with fail
  refine (C1 _).out.mono ?_
  rintro e w2 ⟨⟨a2, c2, rfl, ho2, hLc⟩, hb2⟩
  have HB2 := Lib.hid (HB1.out.trans (hb2.mono HB1.out.size))
  have HS2 := Lib.hid ho2.strs
  have z1 := HB1.out.size
  have z2 := hb2.size
  clear hb2 ho2 HB1
  go_wp2_with fail
  refine (C2 _).out.mono ?_
  rintro e w3 ⟨⟨a3, c3, rfl, ho3⟩, hb3⟩
  have HB3 := Lib.hid (HB2.out.trans (hb3.mono HB2.out.size))
  have HS3 := Lib.hid (HS2.out.below hb3 (Nat.le_refl _))
  have HT3 := Lib.hid ho3.strs
  have z3 := hb3.size
  clear hb3 ho3 HB2 HS2
  go_wp2_with fail
  refine (sameTexts w3 w2.heap.size w3.heap.size a2 a3 L.length c2 L.length c3 L L HS3.out HT3.out (by omega) (by omega)).mono ?_
  rintro e w4 ⟨rfl, nq, rfl⟩
  rw [show decide (L = L) = true from decide_eq_true rfl]
  have hEs : decide (s.size < E) = false := decide_eq_false (by omega)
  have HS4 := Lib.hid (HS3.out.kept (w' := w3.drewN nq) fun _ _ => rfl)
  have HB4 : Hid (Below w.heap.size w (w3.drewN nq)) := HB3.out.trans ⟨rfl, rfl, rfl, Nat.le_refl _, fun _ _ => rfl⟩
  have z4 : w2.heap.size ≤ (w3.drewN nq).heap.size := z3
  clear HS3 HT3 HB3 C2
  generalize w3.drewN nq = w4 at HS4 HB4 z4 ⊢
  go_wp2
  have HCz : Hid (∀ k, k ≤ L.length → (catF (L.take k)).size ≤ E) := by
    intro k _
    have h1 := catF_le L k
    have h2 : (catF L).size = E := by rw [M1.out, ByteArray.size_extract]; omega
    omega
  have HCn : Hid (∀ k, k < L.length → catF (L.take (k + 1)) = catF (L.take k) ++ frameStr (L.getD k ⟨#[]⟩)) := by
    intro k hk
    rw [take_getS L k hk, catF_snoc]
  have HDz : Hid (∀ k, k < L.length → (L.getD k ⟨#[]⟩).size ≤ 100000) := fun k hk => M3.out _ (by rw [List.getD_eq_getElem?_getD, List.getElem?_eq_getElem hk]; exact List.getElem_mem _)
  go_loopw [8, 9] (fun t i wr => ∃ (k : Nat), k ≤ L.length ∧ i = .int .i64 (k : Int) ∧ t = .string (catF (L.take k)) ∧ Hid (Below w4.heap.size w4 wr)) (fun _ i _ => L.length - (intOf i).toNat)
  case atStart => exact ⟨0, Nat.zero_le _, rfl, rfl, Below.refl _ _⟩
  case round =>
    obtain ⟨k, hk, rfl, rfl, HBr⟩ := hrel
    have zr := HBr.out.size
    have HSr := Lib.hid (HS4.out.below HBr.out z4)
    by_cases hlt : k < L.length
    · obtain ⟨b, off, rfl, hb, hc⟩ := HSr.out.2 k hlt
      have hdz := HDz.out k hlt
      have hkz := HCz.out (k + 1) hlt
      have hn := HCn.out k hlt
      rw [hn] at hkz
      have HN := Lib.hid hn
      clear hn
      generalize L.getD k ⟨#[]⟩ = d at hdz hkz HN hc
      rw [ByteArray.size_append] at hkz
      go_wp2_with fail
      refine (implFrame d hdz wr).mono ?_
      rintro e w5 ⟨rfl, hb5⟩
      have HB5 := Lib.hid (HBr.out.trans (hb5.mono HBr.out.size))
      clear hb5
      go_wp2
      go_roundw
      case rel => exact ⟨k + 1, hlt, (by go_num), by rw [HN.out], HB5⟩
      case measure => simp [intOf]; omega
    have hk' : k = L.length := by omega
    subst hk'
    have hds : decide (catF L = s.extract 0 E) = true := decide_eq_true M1.out
    rw [List.take_length]
    have hCE : (catF L).size ≤ 40 := by rw [M1.out, ByteArray.size_extract]; omega
    go_wp2_with fail
    have HSr' := Lib.hid (src_below (HSR.out) (HB4.out.trans (HBr.out.mono HB4.out.size)))
    refine (drawFrame wr a len cap ⟨HSR.out.1, fun i hi => by obtain ⟨b, off, z, e, hb, r⟩ := HSr'.out.2 i hi; exact ⟨b, off, z, e, by have := HB4.out.size; omega, r⟩⟩).mono ?_
    rintro e w5 ⟨t, ht, rfl, hb5⟩
    have HB5 := Lib.hid (HBr.out.trans (hb5.mono HBr.out.size))
    have z5 := hb5.size
    clear hb5 HBr
    have HMt := HMore t (by omega)
    have hft : (frameStr t).size ≤ 16 := by have := (frame_back s t (by omega)).2.2.2; omega
    go_wp2_with fail
    refine (implFrame t (by omega) w5).mono ?_
    rintro e w6 ⟨rfl, hb6⟩
    have HB6 := Lib.hid (HB5.out.trans (hb6.mono HB5.out.size))
    have z6 := hb6.size
    clear hb6 HB5
    have hsum : (catF L ++ frameStr t).size ≤ 56 := by rw [ByteArray.size_append]; omega
    go_wp2_with fail
    have C7 := implTake (catF L ++ frameStr t) (by omega) w6
    rw [HMt.out.1, HMt.out.2] at C7
    refine C7.mono ?_
    clear C7 HMt
    rintro e w7 ⟨⟨a7, c7, rfl, ho7⟩, hb7⟩
    rw [show (L ++ [t]).length = L.length + 1 by simp] at ho7 ⊢
    have HB7 := Lib.hid (HB6.out.trans (hb7.mono HB6.out.size))
    have HS7 := Lib.hid ho7.strs
    have z7 := hb7.size
    clear hb7 ho7 HB6
    have hkk : len % ((catF L).size + 1) ≤ (catF L).size := by have := Nat.mod_lt len (show 0 < (catF L).size + 1 by omega); omega
    have hk0 : (0 : Int) ≤ (len : Int) % (((catF L).size : Int) + 1) := Int.emod_nonneg _ (by omega)
    have hk1 : (len : Int) % (((catF L).size : Int) + 1) ≤ ((catF L).size : Int) := by
      have := Int.emod_lt_of_pos (len : Int) (show (0 : Int) < ((catF L).size : Int) + 1 by omega)
      omega
    go_wp2_with fail
    have HP := HPart _ hkk
    have C8 := implTake ((catF L).extract 0 (len % ((catF L).size + 1))) (by rw [ByteArray.size_extract]; omega) w7
    generalize hLF : framesOf ((catF L).extract 0 (len % ((catF L).size + 1))) = F at HP C8
    refine C8.mono ?_
    clear C8 hLF
    rintro e w8 ⟨⟨a8, c8, rfl, ho8⟩, hb8⟩
    have HB8 := Lib.hid (HB7.out.trans (hb8.mono HB7.out.size))
    have z8 := hb8.size
    have HS4' := Lib.hid (HS4.out.below HB8.out z4)
    have HS7' := Lib.hid (HS7.out.below hb8 (Nat.le_refl _))
    have HS8 := Lib.hid ho8.strs
    clear hb8 ho8 HB7 HS7
    have hFL : F.length ≤ L.length := HP.out.length_le
    obtain ⟨b7, o7, rfl, hb7, hc7⟩ := HS7'.out.2 L.length (by simp)
    have hgd : (L ++ [t]).getD L.length ⟨#[]⟩ = t := by simp
    rw [hgd] at hc7
    have htl : (catF L).toList = (s.extract 0 E).toList := by rw [M1.out]
    go_wp2_with fail
    refine (implFrame t (by omega) w8).mono ?_
    rintro e w9 ⟨rfl, hb9⟩
    have HB9 := Lib.hid (HB8.out.trans (hb9.mono HB8.out.size))
    have z9 := hb9.size
    have HS4'' := Lib.hid (HS4'.out.below hb9 (by omega))
    have HS8' := Lib.hid (HS8.out.below hb9 (Nat.le_refl _))
    clear hb9 HS4' HS8 HS7' HB8
    have hFc : F.length ≤ c2 := by omega
    have hds2 : True := trivial
    go_wp2_with fail
    have HT : Hid (Strs w9 w2.heap.size a2 F.length F) := by
      refine ⟨rfl, fun i hi => ?_⟩
      obtain ⟨b, off, e, hb, hc⟩ := HS4''.out.2 i (by omega)
      refine ⟨b, off, e, hb, ?_⟩
      rw [hc]
      obtain ⟨r, hr⟩ := HP.out
      rw [← hr, List.getD_eq_getElem?_getD, List.getD_eq_getElem?_getD, List.getElem?_append_left hi]
    refine (sameTexts w9 w8.heap.size w2.heap.size a8 a2 F.length c8 F.length c2 F F HS8'.out HT.out (by omega) (by omega)).mono ?_
    rintro e w10 ⟨rfl, nq, rfl⟩
    rw [show decide (F = F) = true from decide_eq_true rfl]
    have HZ : Hid (Below w.heap.size w (w9.drewN nq)) := (HB4.out.trans (HB9.out.mono HB4.out.size)).trans ⟨rfl, rfl, rfl, Nat.le_refl _, fun _ _ => rfl⟩
    go_wp2
    go_ret
    exact ⟨rfl, HZ.out⟩
end Go.Proofs.Ytdmhibdhnejiiab
