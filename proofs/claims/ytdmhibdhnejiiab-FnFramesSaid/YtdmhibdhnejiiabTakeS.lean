/- The walk of spec.TakeFrames. -/
import Derived.Test.YtdmhibdhnejiiabTakeI
import Derived.IntWalk
namespace Go.Proofs.Ytdmhibdhnejiiab
open Go.RowKit
set_option linter.unusedVariables false

theorem pre_small {s : ByteArray} {a : Nat} (k : Nat) (hk : k ≤ 4) : pre s a k ≤ 4294967295 := pre_le s a k hk
set_option maxRecDepth 100000 in
set_option maxHeartbeats 2000000 in
theorem specTake (s : ByteArray) (hs : s.size ≤ 1048576) (w : World) :
    Calls Try.prog 9 #[.string s] w (TakePost (framesOf s) (framesEnd s) w) := by
  obtain ⟨i0, hi, hz0, hz1, hz2⟩ := info_parts Try.infoStr
  go_enter Try.func9, Try.ntmps9
  go_wp2
  go_loopw [4, 5, 6, 7] (fun v i _ _ wr => ∃ (at_ : Nat) (l : List ByteArray) (vv : Value), vv = v ∧ i = .int .i64 (at_ : Int) ∧ at_ ≤ s.size ∧ 8 * l.length ≤ at_ ∧ Hid (Stands s at_ l) ∧ Hid (wr.ownsRow w.heap.size 9 1 v l.length (l.map Value.string)) ∧ Hid (Below w.heap.size w wr)) (fun _ i _ _ _ => s.size - (intOf i).toNat)
  case atStart => exact ⟨0, [], _, rfl, rfl, Nat.zero_le _, by simp, stands_first s, World.ownsRow_made w #[] 0 (Nat.le_refl _) (by unfold maxLen; omega) rfl, (Below.refl _ _).alloc (Nat.le_refl _) _⟩
  case round =>
    obtain ⟨at_, l, vv, hvv, rfl, hat, hl, HS, HO, HB⟩ := hrel
    subst hvv
    have HP : Hid (∃ a c, vv = .slice a l.length c ∧ OwnStrs wr w.heap.size wr.heap.size a l.length l) := ownStrs_of_row HO.out
    by_cases h8 : at_ + 8 ≤ s.size
    rotate_left
    · have HE := Lib.hid (stands_end HS.out hat (frame_short (by omega)))
      have hg : decide ((at_ : Int) + 8 ≤ (s.size : Int)) = false := decide_eq_false (by omega)
      obtain ⟨ra, rc, rfl, ho⟩ := HP.out
      have HOo := Lib.hid ho
      clear ho HP HS HO
      go_wp2
      go_ret2
      obtain ⟨e1, e2⟩ := HE.out
      exact ⟨⟨ra, rc, by unfold framesOf framesEnd; rw [e1, e2]; rfl, by unfold framesOf; rw [e1]; exact HOo.out⟩, HB.out⟩
    have hg : decide ((at_ : Int) + 8 ≤ (s.size : Int)) = true := decide_eq_true (by omega)
    go_wp2
    go_loop [6, 7] (fun n j => ∃ k : Nat, k ≤ 4 ∧ j = .int .i64 (k : Int) ∧ n = .int .i64 ((pre s at_ k : Nat) : Int)) (fun _ j => 4 - (intOf j).toNat)
    case atStart => exact ⟨0, by omega, rfl, rfl⟩
    case round =>
      obtain ⟨k, hk, rfl, rfl⟩ := hrel
      by_cases hk4 : k < 4
      · have hp := pre_le s at_ k hk
        have HN : Hid (pre s at_ (k + 1) = 256 * pre s at_ k + byt s (at_ + k)) := rfl
        have HBy := Lib.hid (byt_at (s := s) (i := at_ + k) (by omega))
        obtain ⟨q, hq⟩ : ∃ q, q = pre s at_ k := ⟨_, rfl⟩
        rw [← hq] at hp HN ⊢
        clear hq
        have hak : (at_ : Int) + (k : Int) < (s.size : Int) := by omega
        have hak2 : at_ + k < s.size := by omega
        have hb8 : s[at_ + k].toNat < 256 := UInt8.toNat_lt _
        go_wp2
        go_round
        case rel => exact ⟨k + 1, by omega, by go_num, by rw [HN.out, HBy.out]; go_num⟩
        case measure => simp [intOf]; omega
      · obtain rfl : k = 4 := by omega
        have HFs := fun h => Lib.hid (frame_short (s := s) (at_ := at_) h)
        have HFl := fun h => Lib.hid (frame_long (s := s) (at_ := at_) h)
        have HDa : Hid (dataAt s at_ = s.extract (at_ + 8) (at_ + 8 + pre s at_ 4)) := rfl
        have HSt := fun h => Lib.hid (stands_step HS.out hat h)
        have HEn := fun h => Lib.hid (stands_end HS.out hat h)
        obtain ⟨n, hn⟩ : ∃ n, n = pre s at_ 4 := ⟨_, rfl⟩
        rw [← hn] at HFs HFl HDa HSt ⊢
        clear hn
        by_cases c1 : n ≤ 100000
        rotate_left
        · have HE := HEn (HFs (by omega)).out
          have hg1 : decide ((100000 : Int) < (n : Int)) = true := decide_eq_true (by omega)
          obtain ⟨ra, rc, rfl, ho⟩ := HP.out
          have HOo := Lib.hid ho
          clear HFs HFl HDa HSt HEn ho HP HS HO
          go_wp2_with fail
          go_quiet (fail)
          go_wp2
          go_ret2
          obtain ⟨e1, e2⟩ := HE.out
          exact ⟨⟨ra, rc, by unfold framesOf framesEnd; rw [e1, e2]; rfl, by unfold framesOf; rw [e1]; exact HOo.out⟩, HB.out.trans ⟨rfl, rfl, rfl, Nat.le_refl _, fun _ _ => rfl⟩⟩
        have hg1 : decide ((100000 : Int) < (n : Int)) = false := decide_eq_false (by omega)
        by_cases c2 : at_ + 8 + n ≤ s.size
        rotate_left
        · have HE := HEn (HFs (by omega)).out
          have hg2 : decide ((s.size : Int) < (at_ : Int) + 8 + (n : Int)) = true := decide_eq_true (by omega)
          obtain ⟨ra, rc, rfl, ho⟩ := HP.out
          have HOo := Lib.hid ho
          clear HFs HFl HDa HSt HEn ho HP HS HO
          go_wp2_with fail
          go_quiet (fail)
          go_wp2
          go_ret2
          obtain ⟨e1, e2⟩ := HE.out
          exact ⟨⟨ra, rc, by unfold framesOf framesEnd; rw [e1, e2]; rfl, by unfold framesOf; rw [e1]; exact HOo.out⟩, HB.out.trans ⟨rfl, rfl, rfl, Nat.le_refl _, fun _ _ => rfl⟩⟩
        have HFe := HFl ⟨h8, c1, c2⟩
        have hg2 : decide ((s.size : Int) < (at_ : Int) + 8 + (n : Int)) = false := decide_eq_false (by omega)
        have k1 : (at_ : Int) + 8 ≤ (at_ : Int) + 8 + (n : Int) := by omega
        have k2 : (at_ : Int) + 8 + (n : Int) ≤ (s.size : Int) := by omega
        have hdz : (s.extract (at_ + 8) (at_ + 8 + n)).size ≤ 1048576 := by rw [ByteArray.size_extract]; omega
        have n1 : ((at_ : Int) + 8 + (n : Int)).toNat = at_ + 8 + n := by omega
        have n2 : ((at_ : Int) + 8).toNat = at_ + 8 := by omega
        have n3 : ((at_ : Int) + 4).toNat = at_ + 4 := by omega
        have q1 : IntKind.i64.wrap ((at_ : Int) + 8) = (at_ : Int) + 8 := IntWalk.i64_in _ (by omega)
        have q2 : IntKind.i64.wrap ((at_ : Int) + 8 + (n : Int)) = (at_ : Int) + 8 + (n : Int) := IntWalk.i64_in _ (by omega)
        have q3 : IntKind.i64.wrap ((at_ : Int) + 4) = (at_ : Int) + 4 := IntWalk.i64_in _ (by omega)
        have k3 : (at_ : Int) + 4 ≤ (at_ : Int) + 8 := by omega
        have k4 : (at_ : Int) + 8 ≤ (s.size : Int) := by omega
        have z1 : (0 : Int) ≤ (at_ : Int) + 8 := by omega
        have z2 : (0 : Int) ≤ (at_ : Int) + 4 := by omega
        have z3 : (0 : Int) ≤ (at_ : Int) + 8 + (n : Int) := by omega
        clear HFs HFl
        rw [HDa.out] at HFe
        rcases hb : frameB s at_ with _ | _
        · have HE := HEn hb
          have hne : (!((sumStr (s.extract (at_ + 8) (at_ + 8 + n))).toList == (s.extract (at_ + 4) (at_ + 8)).toList)) = true := by
            rw [Bool.not_eq_true', beq_eq_false_iff_ne]
            intro h
            have := HFe.out
            rw [hb, decide_eq_true (text_extS h)] at this
            cases this
          obtain ⟨ra, rc, rfl, ho⟩ := HP.out
          have HOo := Lib.hid ho
          clear HDa HSt HEn ho HP HS HO hb HFe
          go_wp2_with fail
          go_region_held3 (fun _ => True) (trivial) (first | (go_at_call 23; refine (l11Sum _ hdz _).mono ?_; rintro e w1 ⟨rfl, hb1⟩))
          clear q1 q2 q3
          have HB1 := Lib.hid (HB.out.trans ((⟨hb1.os, hb1.tape, hb1.output, hb1.size, hb1.block⟩ : Below wr.heap.size wr w1).mono HB.out.size))
          have HO1 : Hid (OwnStrs w1 w.heap.size w1.heap.size ra l.length l) := (HOo.out.kept fun j _ h2 => hb1.block j h2).more (Nat.le_refl _) hb1.size
          clear hb1 HB HOo
          go_wp2
          go_ret2
          obtain ⟨e1, e2⟩ := HE.out
          exact ⟨⟨ra, rc, by unfold framesOf framesEnd; rw [e1, e2]; rfl, by unfold framesOf; rw [e1]; exact HO1.out⟩, HB1.out⟩
        · have HE := HSt hb
          have hne : (!((sumStr (s.extract (at_ + 8) (at_ + 8 + n))).toList == (s.extract (at_ + 4) (at_ + 8)).toList)) = false := by
            have := HFe.out
            rw [hb] at this
            rw [of_decide_eq_true this.symm, beq_self_eq_true]
            rfl
          rw [HDa.out] at HE
          clear HDa HSt HEn HP HS hb HFe
          go_wp2_with fail
          go_region_held3 (fun _ => True) (trivial) (first | (go_at_call 23; refine (l11Sum _ hdz _).mono ?_; rintro e w1 ⟨rfl, hb1⟩))
          clear q1 q2 q3
          have HB1 := Lib.hid (HB.out.trans ((⟨hb1.os, hb1.tape, hb1.output, hb1.size, hb1.block⟩ : Below wr.heap.size wr w1).mono HB.out.size))
          have hO1 : w1.ownsRow w.heap.size 9 1 vv l.length (l.map Value.string) := HO.out.kept (row := none) ⟨hb1.os, hb1.tape, hb1.output, hb1.size, fun j hj _ => hb1.block j hj⟩ (by rcases vv.ownBlock with _ | g; exact .inl rfl; exact .inr (fun h => by cases h))
          have hBs := HB1.out.size
          clear hb1 HB HO
          go_wp2_with (at_builtin; refine wpList_append_own _ rfl _ _ 24 rfl w.heap.size 9 i0 (.string ⟨#[]⟩) 1 16 Try.underlying24 hi hz0 hz1 hz2 rfl (by decide) _ _ _ rfl (hO1.alloc _) ⟨w1.heap.size, 0, none⟩ 1 1 [.string (s.extract (at_ + 8) (at_ + 8 + n))] rfl rfl ?c1 ?c2 ?c3 ?c4 ?c5 ?_)
          case c1 =>
            intro j u hj
            match j, hj with
            | 0, hj => simp at hj; subst hj; simp [Addr.add]
          case c2 => intro u hu; simp at hu; subst hu; rfl
          case c3 => unfold maxLen; omega
          case c4 => omega
          case c5 => simp; omega
          intro v' w3 hown3 hgrow3 _
          have HB3 := Lib.hid ((HB1.out.alloc hBs (.cells #[.string (s.extract (at_ + 8) (at_ + 8 + n))] 9)).grown hgrow3 (by simp; omega) (fun j hj => (hO1.lt j hj).1))
          have HO3 : Hid (w3.ownsRow w.heap.size 9 1 v' (l ++ [s.extract (at_ + 8) (at_ + 8 + n)]).length ((l ++ [s.extract (at_ + 8) (at_ + 8 + n)]).map Value.string)) := by
            show World.ownsRow _ _ _ _ _ _ _
            simpa using hown3
          clear hown3 hgrow3 hO1 HB1 n1 n2 n3
          go_wp2
          go_roundw
          case rel => exact ⟨at_ + 8 + n, l ++ [s.extract (at_ + 8) (at_ + 8 + n)], _, rfl, (by go_num), c2, (by simp; omega), HE, HO3, HB3⟩
          case measure => simp [intOf]; omega
end Go.Proofs.Ytdmhibdhnejiiab
