/- The walks of impl.firstFrame and impl.TakeFrames. -/
import Derived.Test.YtdmhibdhnejiiabFrameI
import Derived.Test.YtdmhibdhnejiiabShelf
import Derived.Deep.RegionHeld3
import Derived.RegionTactic
namespace Go.Proofs.Ytdmhibdhnejiiab
open Go.RowKit
set_option linter.unusedVariables false

theorem or_nat64 (a b : Nat) (ha : a < 9223372036854775808) (hb : b < 9223372036854775808) : bits .or .i64 (a : Int) (b : Int) = ((a ||| b : Nat) : Int) := by
  have ho : a ||| b < 2 ^ 63 := Nat.or_lt_two_pow ha hb
  have e1 : (BitVec.ofInt 64 (a : Int)).toNat = a := ofInt_u64 a (by omega)
  have e2 : (BitVec.ofInt 64 (b : Int)).toNat = b := ofInt_u64 b (by omega)
  have key : (BitVec.ofInt 64 (a : Int) ||| BitVec.ofInt 64 (b : Int)).toNat = a ||| b := by rw [BitVec.toNat_or, e1, e2]
  show IntKind.i64.wrap ((BitVec.ofInt 64 (a : Int) ||| BitVec.ofInt 64 (b : Int)).toNat : Nat) = _
  rw [key, IntKind.wrap_i64]
  omega
theorem cloneT (s : ByteArray) (h : s.size ≤ 1048576) (w : World) :
    Calls Try.prog 26 #[.string s] w fun e w' => e = .returned (.string s) ∧ Below w.heap.size w w' := by
  go_enter Try.func26, Try.ntmps26
  go_wp2_with fail
  refine (Try.stringslite_Clone s _ (by omega)).mono ?_
  rintro e w1 ⟨rfl, hb1⟩
  go_wp2
  go_ret
  exact ⟨rfl, hb1⟩

/-- What firstFrame answers: the data and whether they are a frame's. -/
def FirstPost (t : ByteArray) (w : World) (e : Ending) (w' : World) : Prop := (∃ d, e = .returned (.tuple #[.string d, .bool (frameB t 0)]) ∧ (frameB t 0 = true → d = dataAt t 0)) ∧ Below w.heap.size w w'
theorem wr_in (x : Int) (h0 : 0 ≤ x) (h1 : x < 9223372036854775808) : wrap64 x = x := by simp only [wrap64]; omega
theorem or_sh (i a b : Nat) (h : b < 2 ^ i) : a * 2 ^ i ||| b = a * 2 ^ i + b := by
  rw [← Nat.shiftLeft_eq]
  exact (Nat.shiftLeft_add_eq_or_of_lt h a).symm
theorem or24 (a b : Nat) (h : b < 16777216) : a * 16777216 ||| b = a * 16777216 + b := or_sh 24 a b h
theorem or16 (a b : Nat) (h : b < 65536) : a * 65536 ||| b = a * 65536 + b := or_sh 16 a b h
theorem or8 (a b : Nat) (h : b < 256) : a * 256 ||| b = a * 256 + b := or_sh 8 a b h
theorem w24 (a : Nat) (h : a < 256) : wrap64 (wrap64 (a : Int) * 16777216) = ((a * 16777216 : Nat) : Int) := by
  rw [wr_in (a : Int) (by omega) (by omega), wr_in _ (by omega) (by omega)]; omega
theorem w16 (a : Nat) (h : a < 256) : wrap64 (wrap64 (a : Int) * 65536) = ((a * 65536 : Nat) : Int) := by
  rw [wr_in (a : Int) (by omega) (by omega), wr_in _ (by omega) (by omega)]; omega
theorem w8 (a : Nat) (h : a < 256) : wrap64 (wrap64 (a : Int) * 256) = ((a * 256 : Nat) : Int) := by
  rw [wr_in (a : Int) (by omega) (by omega), wr_in _ (by omega) (by omega)]; omega
theorem w0 (a : Nat) (h : a < 256) : wrap64 (a : Int) = (a : Int) := wr_in (a : Int) (by omega) (by omega)
theorem four_num (a b c d : Nat) (h0 : a < 256) (h1 : b < 256) (h2 : c < 256) (h3 : d < 256) :
    bits .or .i64 (bits .or .i64 (bits .or .i64 (wrap64 (wrap64 (a : Int) * 16777216)) (wrap64 (wrap64 (b : Int) * 65536))) (wrap64 (wrap64 (c : Int) * 256))) (wrap64 (d : Int)) = ((256 * (256 * (256 * a + b) + c) + d : Nat) : Int) := by
  rw [w24 a h0, w16 b h1, w8 c h2, w0 d h3, or_nat64 (a * 16777216) (b * 65536) (by omega) (by omega), or24 a (b * 65536) (by omega), or_nat64 (a * 16777216 + b * 65536) (c * 256) (by omega) (by omega), show a * 16777216 + b * 65536 = (a * 256 + b) * 65536 by omega,
    or16 (a * 256 + b) (c * 256) (by omega), or_nat64 ((a * 256 + b) * 65536 + c * 256) d (by omega) (by omega), show (a * 256 + b) * 65536 + c * 256 = (a * 65536 + b * 256 + c) * 256 by omega, or8 (a * 65536 + b * 256 + c) d h3]
  congr 1
  omega
theorem four_val (t u : ByteArray) (hu : u = t.extract 0 8) (h8 : 8 ≤ t.size) (h : u.size = 8) (p0 : 0 < u.size) (p1 : 1 < u.size) (p2 : 2 < u.size) (p3 : 3 < u.size) :
    bits .or .i64 (bits .or .i64 (bits .or .i64 (wrap64 (wrap64 ((u[0]'p0).toNat : Int) * 16777216)) (wrap64 (wrap64 ((u[1]'p1).toNat : Int) * 65536))) (wrap64 (wrap64 ((u[2]'p2).toNat : Int) * 256))) (wrap64 ((u[3]'p3).toNat : Int)) = ((pre t 0 4 : Nat) : Int) := by
  rw [← byt_at p0, ← byt_at p1, ← byt_at p2, ← byt_at p3, hu, byt_ext (by omega), byt_ext (by omega), byt_ext (by omega), byt_ext (by omega), four_num _ _ _ _ (byt_lt _ _) (byt_lt _ _) (byt_lt _ _) (byt_lt _ _)]
  simp only [pre, Nat.zero_add, Nat.mul_zero]
set_option maxRecDepth 100000 in
set_option maxHeartbeats 1000000 in
theorem firstShort (t : ByteArray) (ht : t.size ≤ 1048576) (h8 : t.size < 8) (w : World) :
    Calls Try.prog 25 #[.string t] w (FirstPost t w) := by
  have HF : Hid (frameB t 0 = false) := frame_short (by omega)
  go_enter Try.func25, Try.ntmps25
  go_wp2
  go_ret2
  exact ⟨⟨⟨#[]⟩, by rw [HF.out]; rfl, fun h => by rw [HF.out] at h; cases h⟩, Below.refl _ _⟩
set_option maxRecDepth 100000 in
set_option maxHeartbeats 1000000 in
theorem firstLong (t : ByteArray) (ht : t.size ≤ 1048576) (h8 : ¬ t.size < 8) (w : World) :
    Calls Try.prog 25 #[.string t] w (FirstPost t w) := by
  have h8' : (8 : Int) ≤ (t.size : Int) := by omega
  have hd1 : decide ((t.size : Int) < 8) = false := decide_eq_false (by omega)
  have s1 : (t.extract 0 8).size = 8 := by rw [ByteArray.size_extract]; omega
  have s2 : (t.extract 8 t.size).size = t.size - 8 := by rw [ByteArray.size_extract]; omega
  have S2 := Lib.hid s2
  clear s2
  obtain ⟨u, hu⟩ : ∃ u, u = t.extract 0 8 := ⟨_, rfl⟩
  have HU := Lib.hid hu
  rw [← hu] at s1
  have x0 : 0 < u.size := by omega
  have x1 : (1 : Int) < (u.size : Int) := by omega
  have x2 : (2 : Int) < (u.size : Int) := by omega
  have x3 : (3 : Int) < (u.size : Int) := by omega
  have S1 := Lib.hid s1
  clear s1
  go_enter Try.func25, Try.ntmps25
  go_wp2_with fail
  go_quiet (fail)
  rw [← hu]
  clear hu
  go_wp2_with fail
  go_quiet (fail)
  have hval := four_val t u HU.out (by omega) S1.out x0 (by omega) (by omega) (by omega)
  simp only [hval]
  clear hval
  have hn := pre_lt t 0
  have HFs := fun h => Lib.hid (frame_short (s := t) (at_ := 0) h)
  have HFl := fun h => Lib.hid (head_iff (s := t) (at_ := 0) h)
  have HDa : Hid (dataAt t 0 = t.extract 8 (8 + pre t 0 4)) := by unfold dataAt; rfl
  generalize pre t 0 4 = n at *
  by_cases c1 : n ≤ 100000
  rotate_left
  · have HF : Hid (frameB t 0 = false) := (HFs (by omega)).out
    have hg1 : decide ((100000 : Int) < (n : Int)) = true := decide_eq_true (by omega)
    clear HFs HFl HDa
    go_wp2
    go_ret2
    exact ⟨⟨⟨#[]⟩, by rw [HF.out]; rfl, fun h => by rw [HF.out] at h; cases h⟩, ⟨rfl, rfl, rfl, Nat.le_refl _, fun _ _ => rfl⟩⟩
  have hg1 : decide ((100000 : Int) < (n : Int)) = false := decide_eq_false (by omega)
  have S2s := S2.out
  by_cases c2 : n ≤ t.size - 8
  rotate_left
  · have HF : Hid (frameB t 0 = false) := (HFs (by omega)).out
    have hg2 : ((t.extract 8 t.size).size : Int) < (n : Int) := by rw [S2s]; omega
    have hg3 : (t.extract 8 t.size).size < n := by rw [S2s]; omega
    clear HFs HFl HDa S2s
    go_wp2
    go_ret2
    exact ⟨⟨⟨#[]⟩, by rw [HF.out]; rfl, fun h => by rw [HF.out] at h; cases h⟩, ⟨rfl, rfl, rfl, Nat.le_refl _, fun _ _ => rfl⟩⟩
  have hg2 : (n : Int) ≤ ((t.extract 8 t.size).size : Int) := by rw [S2s]; omega
  have hg3 : n ≤ (t.extract 8 t.size).size := by rw [S2s]; omega
  have HB := HFl ⟨by omega, by omega, by omega⟩
  have HX : Hid ((t.extract 8 t.size).extract 0 n = dataAt t 0) := by
    show _ = _
    rw [HDa.out, ext_ext t 8 0 n (by omega) (by omega)]
  have HS : Hid ((dataAt t 0).size ≤ 100000) := by show _ ≤ _; rw [HDa.out, ByteArray.size_extract]; omega
  rw [Nat.zero_add, ← HU.out] at HB
  clear HFs HFl HDa S2s
  generalize t.extract 8 t.size = r at hg2 hg3 HX S2
  go_upto_region 8 with fail
  rw [HX.out]
  obtain ⟨d, hd⟩ : ∃ d, d = dataAt t 0 := ⟨_, rfl⟩
  rw [← hd] at HB HS ⊢
  have HD := Lib.hid hd
  clear hd HX
  go_wp2_with fail
  refine (headOf d HS.out _).mono ?_
  rintro e w1 ⟨rfl, hb1⟩
  have hbq := HB.out
  go_wp2
  go_ret2
  exact ⟨⟨d, rfl, fun _ => HD.out⟩, ⟨hb1.os, hb1.tape, hb1.output, hb1.size, hb1.block⟩⟩
theorem firstFrame (t : ByteArray) (ht : t.size ≤ 1048576) (w : World) : Calls Try.prog 25 #[.string t] w (FirstPost t w) := by
  by_cases h8 : t.size < 8
  · exact firstShort t ht h8 w
  · exact firstLong t ht h8 w

theorem Try.infoStr : (Try.prog.info? 9).map (fun i => (i.zero, i.size, i.bytes)) = some (some (.string ⟨#[]⟩), 1, 16) := by kernel_rfl
/-- What a reader of frames answers. -/
def TakePost (l : List ByteArray) (n : Nat) (w : World) (e : Ending) (w' : World) : Prop :=
  (∃ a c, e = .returned (.tuple #[.slice a l.length c, .int .i64 (n : Int)]) ∧ OwnStrs w' w.heap.size w'.heap.size a l.length l) ∧ Below w.heap.size w w'
/-- The same, with what the row holds. -/
def TakePostC (l : List ByteArray) (n : Nat) (w : World) (e : Ending) (w' : World) : Prop :=
  (∃ a c, e = .returned (.tuple #[.slice a l.length c, .int .i64 (n : Int)]) ∧ OwnStrs w' w.heap.size w'.heap.size a l.length l ∧ l.length ≤ c) ∧ Below w.heap.size w w'
theorem ownStrs_of_rowC {w : World} {base : Nat} {v : Value} {n : Nat} {l : List ByteArray} (h : w.ownsRow base 9 1 v n (l.map Value.string)) :
    ∃ a c, v = .slice a n c ∧ OwnStrs w base w.heap.size a n l ∧ n ≤ c := by
  obtain ⟨a, c, e, ho⟩ := ownStrs_of_row h
  rcases h.2 with ⟨e1, e2⟩ | ⟨g, c2, cur, e1, hb, hg, hnc, _, hcs, ht⟩
  · exact ⟨a, c, e, ho, by omega⟩
  · rw [e] at e1
    injection e1 with _ _ e3
    exact ⟨a, c, e, ho, by omega⟩
def framesOf (s : ByteArray) : List ByteArray := (takeF s (s.size + 1) 0 []).1
def framesEnd (s : ByteArray) : Nat := (takeF s (s.size + 1) 0 []).2
theorem frame_ext {s : ByteArray} {a : Nat} (ha : a ≤ s.size) : frameB (s.extract a s.size) 0 = frameB s a ∧ (frameB s a = true → dataAt (s.extract a s.size) 0 = dataAt s a ∧ (dataAt s a).size = pre s a 4 ∧ a + 8 + pre s a 4 ≤ s.size) := by
  by_cases h8 : a + 8 ≤ s.size
  · have hp : pre (s.extract a s.size) 0 4 = pre s a 4 := pre_ext h8 4 (Nat.le_refl _)
    have hz : (s.extract a s.size).size = s.size - a := by rw [ByteArray.size_extract]; omega
    by_cases h : pre s a 4 ≤ 100000 ∧ a + 8 + pre s a 4 ≤ s.size
    · have hd : dataAt (s.extract a s.size) 0 = dataAt s a := by
        unfold dataAt
        rw [hp, ext_ext s a _ _ (by omega) (by omega)]
        congr 1 <;> omega
      have e4 : (s.extract a s.size).extract (0 + 4) (0 + 8) = s.extract (a + 4) (a + 8) := ext_ext s a 4 8 (by omega) (by omega)
      rw [frame_long (s := s.extract a s.size) (at_ := 0) ⟨by omega, by omega, by omega⟩, frame_long (s := s) (at_ := a) ⟨h8, h.1, h.2⟩, hd, e4]
      exact ⟨rfl, fun _ => ⟨rfl, dataAt_size h.2, h.2⟩⟩
    · have e1 := frame_short (s := s.extract a s.size) (at_ := 0) (by omega)
      have e2 := frame_short (s := s) (at_ := a) (by omega)
      rw [e1, e2]
      exact ⟨rfl, fun h => by cases h⟩
  · have hz : (s.extract a s.size).size = s.size - a := by rw [ByteArray.size_extract]; omega
    have e1 := frame_short (s := s.extract a s.size) (at_ := 0) (by omega)
    have e2 := frame_short (s := s) (at_ := a) (by omega)
    rw [e1, e2]
    exact ⟨rfl, fun h => by cases h⟩
theorem frame_size {s : ByteArray} {a : Nat} (h : frameB s a = true) : a + 8 + pre s a 4 ≤ s.size ∧ pre s a 4 ≤ 100000 := by
  unfold frameB at h
  rw [Bool.and_eq_true] at h
  have := of_decide_eq_true h.1
  exact ⟨this.2.2, this.2.1⟩

set_option maxRecDepth 100000 in
set_option maxHeartbeats 1000000 in
theorem implTakeC (s : ByteArray) (hs : s.size ≤ 1048576) (w : World) :
    Calls Try.prog 10 #[.string s] w (TakePostC (framesOf s) (framesEnd s) w) := by
  obtain ⟨i0, hi, hz0, hz1, hz2⟩ := info_parts Try.infoStr
  go_enter Try.func10, Try.ntmps10
  go_wp2
  go_loopw [4, 5] (fun v i wr => ∃ (at_ : Nat) (l : List ByteArray) (vv : Value), vv = v ∧ i = .int .i64 (at_ : Int) ∧ at_ ≤ s.size ∧ 8 * l.length ≤ at_ ∧ Hid (Stands s at_ l) ∧ Hid (wr.ownsRow w.heap.size 9 1 v l.length (l.map Value.string)) ∧ Hid (Below w.heap.size w wr)) (fun _ i _ => s.size - (intOf i).toNat)
  case atStart => exact ⟨0, [], _, rfl, rfl, Nat.zero_le _, by simp, stands_first s, World.ownsRow_nil _ _ _ _, Below.refl _ _⟩
  case round =>
    obtain ⟨at_, l, vv, hvv, rfl, hat, hl, HS, HO, HB⟩ := hrel
    subst hvv
    have hx := (frame_ext hat).1
    have HY := Lib.hid (frame_ext hat).2
    have hsz : (s.extract at_ s.size).size ≤ 1048576 := by rw [ByteArray.size_extract]; omega
    rcases hf : frameB s at_ with _ | _
    · rw [hf] at hx
      have HE := Lib.hid (stands_end HS.out hat hf)
      have HX := Lib.hid hx
      clear hx hf HY
      go_wp2_with fail
      refine (firstFrame _ hsz _).mono ?_
      rintro e w1 ⟨⟨d, rfl, hd⟩, hb1⟩
      rw [HX.out]
      have HB1 := Lib.hid (HB.out.trans (hb1.mono HB.out.size))
      have HP : Hid (∃ a c, vv = .slice a l.length c ∧ OwnStrs w1 w.heap.size w1.heap.size a l.length l ∧ l.length ≤ c) := by
        obtain ⟨a, c, e, ho, hc⟩ := ownStrs_of_rowC HO.out
        exact ⟨a, c, e, (ho.below hb1 (Nat.le_refl _)).more (Nat.le_refl _) hb1.size, hc⟩
      obtain ⟨ra, rc, rfl, ho, hrc⟩ := HP.out
      have HOo := Lib.hid ho
      clear hd hb1 HB HO HP ho HX hsz
      go_wp2
      go_ret2
      obtain ⟨e1, e2⟩ := HE.out
      exact ⟨⟨ra, rc, by unfold framesOf framesEnd; rw [e1, e2]; rfl, by unfold framesOf; rw [e1]; exact HOo.out, by unfold framesOf; rw [e1]; exact hrc⟩, HB1.out⟩
    · rw [hf] at hx
      have HF := frame_size hf
      have HE := Lib.hid (stands_step HS.out hat hf)
      have HX := Lib.hid hx
      have HZ := Lib.hid (HY.out hf)
      clear hx hf HY HS
      go_wp2_with fail
      refine (firstFrame _ hsz _).mono ?_
      rintro e w1 ⟨⟨d, rfl, hd⟩, hb1⟩
      rw [HX.out]
      have HD : Hid (d = dataAt s at_ ∧ d.size = pre s at_ 4) := by
        have := hd HX.out
        rw [this, HZ.out.1]
        exact ⟨rfl, HZ.out.2.1⟩
      have hds : d.size ≤ 1048576 := by have := HD.out.2; omega
      have HB1 := Lib.hid (HB.out.trans (hb1.mono HB.out.size))
      have hO1 : w1.ownsRow w.heap.size 9 1 vv l.length (l.map Value.string) := HO.out.kept (row := none) ⟨hb1.os, hb1.tape, hb1.output, hb1.size, fun j hj _ => hb1.block j hj⟩ (by rcases vv.ownBlock with _ | g; exact .inl rfl; exact .inr (fun h => by cases h))
      have HO1 := Lib.hid hO1
      clear hd hb1 HB HO hO1 HX hsz HZ
      go_wp2_with fail
      refine (cloneT _ hds _).mono ?_
      rintro e w2 ⟨rfl, hb2⟩
      have HB2 := Lib.hid (HB1.out.trans (hb2.mono HB1.out.size))
      have hO2 : w2.ownsRow w.heap.size 9 1 vv l.length (l.map Value.string) := HO1.out.kept (row := none) ⟨hb2.os, hb2.tape, hb2.output, hb2.size, fun j hj _ => hb2.block j hj⟩ (by rcases vv.ownBlock with _ | g; exact .inl rfl; exact .inr (fun h => by cases h))
      have hBs := HB2.out.size
      clear hb2 HB1 HO1
      go_wp2_with (at_builtin; refine wpList_append_own _ rfl _ _ 24 rfl w.heap.size 9 i0 (.string ⟨#[]⟩) 1 16 Try.underlying24 hi hz0 hz1 hz2 rfl (by decide) _ _ _ rfl (hO2.alloc _) ⟨w2.heap.size, 0, none⟩ 1 1 [.string d] rfl rfl ?c1 ?c2 ?c3 ?c4 ?c5 ?_)
      case c1 =>
        intro j u hj
        match j, hj with
        | 0, hj => simp at hj; subst hj; simp [Addr.add]
      case c2 => intro u hu; simp at hu; subst hu; rfl
      case c3 => unfold maxLen; omega
      case c4 => omega
      case c5 => simp; omega
      intro v' w3 hown3 hgrow3 _
      have HB3 := Lib.hid ((HB2.out.alloc hBs (.cells #[.string d] 9)).grown hgrow3 (by simp; omega) (fun j hj => (hO2.lt j hj).1))
      have HO3 : Hid (w3.ownsRow w.heap.size 9 1 v' (l ++ [dataAt s at_]).length ((l ++ [dataAt s at_]).map Value.string)) := by
        show World.ownsRow _ _ _ _ _ _ _
        rw [← HD.out.1]
        simpa using hown3
      clear hown3 hgrow3 hO2 HB2
      have hdz := HD.out.2
      have HDz := Lib.hid hdz
      clear hdz
      obtain ⟨hF1, hF2⟩ := HF
      go_wp2
      go_roundw
      case rel => exact ⟨at_ + 8 + pre s at_ 4, l ++ [dataAt s at_], _, rfl, (by rw [← HDz.out]; go_num), hF1, (by simp; omega), HE, HO3, HB3⟩
      case measure => simp [intOf]; omega
theorem implTake (s : ByteArray) (hs : s.size ≤ 1048576) (w : World) :
    Calls Try.prog 10 #[.string s] w (TakePost (framesOf s) (framesEnd s) w) := by
  refine (implTakeC s hs w).mono ?_
  rintro e w' ⟨⟨a, c, rfl, ho, _⟩, hb⟩
  exact ⟨⟨a, c, rfl, ho⟩, hb⟩
end Go.Proofs.Ytdmhibdhnejiiab
