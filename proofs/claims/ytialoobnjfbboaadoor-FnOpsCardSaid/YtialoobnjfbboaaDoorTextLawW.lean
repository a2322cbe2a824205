/- The walks of spec.ReadText and of the law on ReadText. -/
import Derived.Test.YtialoobnjfbboaaDoorTextReadW
namespace Go.Proofs.YtialoobnjfbboaaDoor
open Go.RowKit

set_option maxRecDepth 100000 in
theorem specReadText (s : ByteArray) (w : World) (hs : s.size ≤ 1048576) :
    Calls Tryd.prog 25 #[.string s] w (TxtPost s w) := by
  go_enter Tryd.func25, Tryd.ntmps25
  go_wp2_with fail
  refine (specRead s _).mono ?_
  rintro e w1 ⟨rfl, hb1⟩
  have HB := Lib.hid hb1
  clear hb1
  have hle := rd_le s.data.toList
  rw [← Lib.size_eq s] at hle
  have HT := Lib.hid (p := TxtOk s ↔ (rd s.data.toList).2.2 = true ∧ (rd s.data.toList).1 ≤ 4000 ∧ (rd s.data.toList).2.1 + (rd s.data.toList).1 ≤ s.size) Iff.rfl
  have HS : Hid (txt s = s.extract (rd s.data.toList).2.1 ((rd s.data.toList).2.1 + (rd s.data.toList).1) ∧ txtEnd s = (rd s.data.toList).2.1 + (rd s.data.toList).1) := ⟨rfl, rfl⟩
  obtain ⟨n, hn⟩ : ∃ n, n = (rd s.data.toList).1 := ⟨_, rfl⟩
  obtain ⟨a, ha⟩ : ∃ a, a = (rd s.data.toList).2.1 := ⟨_, rfl⟩
  obtain ⟨b, hb⟩ : ∃ b, b = (rd s.data.toList).2.2 := ⟨_, rfl⟩
  rw [← hn, ← ha, ← hb] at HT
  rw [← hn, ← ha] at HS
  rw [← ha] at hle
  rw [← hn, ← ha, ← hb]
  clear hn ha hb
  cases b
  · go_wp2
    go_ret3
    exact ⟨HB.out, .inr ⟨fun h => by simpa using HT.out.1 h, rfl⟩⟩
  · by_cases h4 : n ≤ 4000
    · have hd1 : decide ((4000 : Int) < (n : Int)) = false := by simp; omega
      by_cases h5 : a + n ≤ s.size
      · have hd2 : decide ((s.size : Int) - (a : Int) < (n : Int)) = false := by simp; omega
        have hw0 : (0 : Int) ≤ (a : Int) := by omega
        have hw1 : (a : Int) ≤ (a : Int) + (n : Int) := by omega
        have hw2 : (a : Int) + (n : Int) ≤ (s.size : Int) := by omega
        have hwt : ((a : Int) + (n : Int)).toNat = a + n := by omega
        go_wp2
        go_ret3
        exact ⟨HB.out, .inl ⟨HT.out.2 ⟨by first | rfl | trivial, h4, h5⟩, by rw [HS.out.1, HS.out.2, Int.natCast_add]; rfl⟩⟩
      · have hd2 : decide ((s.size : Int) - (a : Int) < (n : Int)) = true := by simp; omega
        go_wp2
        go_ret3
        exact ⟨HB.out, .inr ⟨fun h => h5 (HT.out.1 h).2.2, rfl⟩⟩
    · have hd1 : decide ((4000 : Int) < (n : Int)) = true := by simp; omega
      go_wp2
      go_ret3
      exact ⟨HB.out, .inr ⟨fun h => h4 (HT.out.1 h).2.1, rfl⟩⟩
end Go.Proofs.YtialoobnjfbboaaDoor
