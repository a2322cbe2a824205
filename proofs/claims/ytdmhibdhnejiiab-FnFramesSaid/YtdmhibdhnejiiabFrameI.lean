/- The walks of impl.headOf, impl.FrameOf; the law FnExactFrameOf. -/
import Derived.Test.YtdmhibdhnejiiabFrameW
import Derived.Test.YtdmhibdhnejiiabVarW
import Derived.Deep.Cut
namespace Go.Proofs.Ytdmhibdhnejiiab
open Go.RowKit
set_option linter.unusedVariables false

set_option maxRecDepth 100000 in
set_option maxHeartbeats 1000000 in
theorem headOf (s : ByteArray) (hs : s.size ≤ 100000) (w : World) :
    Calls Try.prog 24 #[.string s] w fun e w' => e = .returned (.string (headStr s)) ∧ Below w.heap.size w w' := by
  obtain ⟨i0, hi, hz0, hz1, hz2⟩ := info_parts Try.infoU8
  have hcl : Reg32 (crc s.data.toList) := crc_lt _
  have HE : Hid (strOfNums (lenNums s.size ++ sumNums (crc s.data.toList)) = headStr s) := rfl
  go_enter Try.func24, Try.ntmps24
  go_wp2_with fail
  refine (checksum s (by omega) _).mono ?_
  rintro e w1 ⟨rfl, hb1⟩
  have HE2 : Hid (∃ c, c = crc s.data.toList) := ⟨_, rfl⟩
  obtain ⟨c, hc⟩ := HE2
  rw [← hc] at hcl HE ⊢
  clear hc
  have hB1 := hb1.size
  have q1 := IntKind.wrap_u8' ((s.size : Int) / 16777216)
  have q2 := IntKind.wrap_u8' ((s.size : Int) / 65536)
  have q3 := IntKind.wrap_u8' ((s.size : Int) / 256)
  have q4 := IntKind.wrap_u8' (s.size : Int)
  have hown : (w1.alloc (.cells #[.int .u8 ((s.size : Int) / 16777216 % 256), .int .u8 ((s.size : Int) / 65536 % 256), .int .u8 ((s.size : Int) / 256 % 256), .int .u8 ((s.size : Int) % 256)] 5)).ownsRow w.heap.size 5 1 (.slice (some ⟨w1.heap.size, 0, none⟩) 4 4) 4 ((lenNums s.size).map (Value.int .u8)) :=
    ⟨rfl, .inr ⟨w1.heap.size, 4, _, rfl, hB1, heap_alloc_new _ _, Nat.le_refl _, by unfold maxLen; omega, rfl, rfl⟩⟩
  have hbl : Below w.heap.size w (w1.alloc (.cells #[.int .u8 ((s.size : Int) / 16777216 % 256), .int .u8 ((s.size : Int) / 65536 % 256), .int .u8 ((s.size : Int) / 256 % 256), .int .u8 ((s.size : Int) % 256)] 5)) := hb1.alloc hB1 _
  go_upto_region 3 with fail
  generalize w1.alloc (.cells #[.int .u8 ((s.size : Int) / 16777216 % 256), .int .u8 ((s.size : Int) / 65536 % 256), .int .u8 ((s.size : Int) / 256 % 256), .int .u8 ((s.size : Int) % 256)] 5) = w2 at hown hbl ⊢
  generalize w1.heap.size = g at hown ⊢
  clear hB1 hb1 w1
  have hB2 := hbl.size
  go_wp2_with (at_builtin; refine wpList_append_own _ rfl _ _ 29 rfl w.heap.size 5 i0 (.int .u8 0) 1 1 Try.underlying29 hi hz0 hz1 hz2 rfl (by decide) _ _ _ rfl (hown.alloc _) ⟨w2.heap.size, 0, none⟩ 4 4 [.int .u8 ((c : Int) % 256), .int .u8 ((c : Int) / 256 % 256), .int .u8 ((c : Int) / 65536 % 256), .int .u8 ((c : Int) / 16777216 % 256)] rfl rfl ?c1 ?c2 ?c3 ?c4 ?c5 ?_)
  case c1 =>
    intro j u hj
    match j, hj with
    | 0, hj => simp at hj; subst hj; simp [Addr.add]
    | 1, hj => simp at hj; subst hj; simp [Addr.add]
    | 2, hj => simp at hj; subst hj; simp [Addr.add]
    | 3, hj => simp at hj; subst hj; simp [Addr.add]
  case c2 => intro u hu; simp at hu; rcases hu with rfl | rfl | rfl | rfl <;> rfl
  case c3 => unfold maxLen; omega
  case c4 => omega
  case c5 => simp; omega
  intro v' w3 hown' hgrow _
  have hcv := run_own_string (xs := lenNums s.size ++ sumNums c) Try.underlying29 Try.underlying5 Try.underlying9 (by simpa [sumNums] using hown') (by decide)
  have hb3 := (hbl.alloc hB2 _).grown hgrow (by simp; omega) (fun j hj => (hown.lt j hj).1)
  clear hown' hgrow hown hbl
  go_wp2
  go_ret
  exact ⟨congrArg (fun x => Ending.returned (.string x)) HE.out, hb3⟩
set_option maxRecDepth 100000 in
theorem implFrame (s : ByteArray) (hs : s.size ≤ 100000) (w : World) :
    Calls Try.prog 8 #[.string s] w fun e w' => e = .returned (.string (frameStr s)) ∧ Below w.heap.size w w' := by
  have h8 : (headStr s).size ≤ 8 := Nat.le_of_eq (headStr_size s)
  have HF : Hid (headStr s ++ s = frameStr s) := rfl
  go_enter Try.func8, Try.ntmps8
  go_wp2_with fail
  refine (headOf s hs _).mono ?_
  rintro e w1 ⟨rfl, hb1⟩
  go_wp2
  go_ret
  exact ⟨congrArg (fun x => Ending.returned (.string x)) HF.out, hb1⟩
set_option maxRecDepth 100000 in
theorem implFrameNo (s : ByteArray) (hs : ¬ s.size ≤ 100000) (hm : s.size ≤ 1048576) (w : World) :
    Calls Try.prog 8 #[.string s] w fun e w' => e = .returned (.string ⟨#[]⟩) ∧ w = w' := by
  go_enter Try.func8, Try.ntmps8
  go_wp2
  go_ret
  exact ⟨rfl, rfl⟩

set_option maxRecDepth 100000 in
theorem fnExactFrameOfWalk (s : ByteArray) (w : World) (_hw : s.size ≤ maxLen) :
    Calls Try.prog 3 #[.string s] w fun e w' => e = .returned (.bool true) ∧ Below w.heap.size w w' := by
  by_cases hbig : s.size ≤ 1048576
  · by_cases h : s.size ≤ 100000
    · go_enter Try.func3, Try.ntmps3
      go_wp2_with fail
      refine (specFrame s h _).mono ?_
      rintro e w1 ⟨rfl, hb1⟩
      go_wp2_with fail
      refine (implFrame s h _).mono ?_
      rintro e w2 ⟨rfl, hb2⟩
      go_wp2
      go_ret
      exact ⟨rfl, hb1.trans (hb2.mono hb1.size)⟩
    · go_enter Try.func3, Try.ntmps3
      go_wp2_with fail
      refine (specFrameNo s h hbig _).mono ?_
      rintro e w1 ⟨rfl, rfl⟩
      go_wp2_with fail
      refine (implFrameNo s h hbig _).mono ?_
      rintro e w2 ⟨rfl, rfl⟩
      go_wp2
      go_ret
      exact ⟨rfl, Below.refl _ _⟩
  · go_enter Try.func3, Try.ntmps3
    go_wp2
    go_ret
    exact ⟨rfl, Below.refl _ _⟩
end Go.Proofs.Ytdmhibdhnejiiab
