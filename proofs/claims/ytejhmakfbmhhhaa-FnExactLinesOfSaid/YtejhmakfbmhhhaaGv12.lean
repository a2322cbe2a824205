/- Walks and mathematics that several claims share, part 12. -/
import Derived.Test.YtejhmakfbmhhhaaGv0
import Derived.Test.YtejhmakfbmhhhaaRows
import Derived.WalkKit
import Derived.WalkLawsBesides
import Derived.Lib.Hide
import Derived.Deep.QuietTactic
import Derived.BigQuiet
import Derived.Laws.Rows
import Derived.WalkSpells
import Derived.OwnWalk
import Derived.Below
import Derived.Laws.BytesArg
import Derived.Lib.Strings
import Derived.Deep.RegionHeld3
import Derived.Deep.Draws
namespace Go.Proofs.Ytejhmakfbmhhhaa
open Go.RowKit
set_option linter.unusedVariables false

/-- A slice of strings that reads as the list l; its cells lie below block B. -/
def Strs (w : World) (B : Nat) (a : Option Addr) (n : Nat) (l : List ByteArray) : Prop :=
  l.length = n ∧ ∀ i, i < n → ∃ b off, a = some ⟨b, off, none⟩ ∧ b < B ∧ w.cell? ⟨b, off + i, none⟩ = some (.string (l.getD i ⟨#[]⟩))
theorem Strs.kept {w w' : World} {B : Nat} {a : Option Addr} {n : Nat} {l : List ByteArray} (h : Strs w B a n l) (hk : ∀ k, k < B → w'.heap[k]? = w.heap[k]?) : Strs w' B a n l :=
  ⟨h.1, fun i hi => by
    obtain ⟨b, off, e, hb, hc⟩ := h.2 i hi
    exact ⟨b, off, e, hb, (World.cell?_of_block (hk b hb)).trans hc⟩⟩
theorem Strs.below {w w' : World} {B B' : Nat} {a : Option Addr} {n : Nat} {l : List ByteArray} (h : Strs w B a n l) (hb : Below B' w w') (hB : B ≤ B') : Strs w' B a n l :=
  h.kept fun k hk => hb.block k (by omega)
theorem Strs.more {w : World} {B B' : Nat} {a : Option Addr} {n : Nat} {l : List ByteArray} (h : Strs w B a n l) (hB : B ≤ B') : Strs w B' a n l :=
  ⟨h.1, fun i hi => by
    obtain ⟨b, off, e, hb, hc⟩ := h.2 i hi
    exact ⟨b, off, e, by omega, hc⟩⟩
/-- A slice of strings whose row, if it has elements, is a block between lo and hi. -/
def OwnStrs (w : World) (lo hi : Nat) (a : Option Addr) (n : Nat) (l : List ByteArray) : Prop :=
  l.length = n ∧ (0 < n → ∃ g off cs, a = some ⟨g, off, none⟩ ∧ lo ≤ g ∧ g < hi ∧ w.heap[g]? = some (.cells cs 9 (0, 0)) ∧ off + n ≤ cs.size ∧ ∀ i, i < n → cs[off + i]? = some (.string (l.getD i ⟨#[]⟩)))
theorem OwnStrs.strs {w : World} {lo hi : Nat} {a : Option Addr} {n : Nat} {l : List ByteArray} (h : OwnStrs w lo hi a n l) : Strs w hi a n l :=
  ⟨h.1, fun i hi' => by
    obtain ⟨g, off, cs, e, _, h2, hg, _, hc⟩ := h.2 (by omega)
    exact ⟨g, off, e, h2, (cell_of_row _ _ _ _ _ _ hg).trans (hc i hi')⟩⟩
theorem OwnStrs.kept {w w' : World} {lo hi : Nat} {a : Option Addr} {n : Nat} {l : List ByteArray} (h : OwnStrs w lo hi a n l) (hk : ∀ j, lo ≤ j → j < hi → w'.heap[j]? = w.heap[j]?) : OwnStrs w' lo hi a n l :=
  ⟨h.1, fun hn => by
    obtain ⟨g, off, cs, e, h1, h2, hg, hs, hc⟩ := h.2 hn
    exact ⟨g, off, cs, e, h1, h2, (hk g h1 h2).trans hg, hs, hc⟩⟩
theorem OwnStrs.below {w w' : World} {lo hi B : Nat} {a : Option Addr} {n : Nat} {l : List ByteArray} (h : OwnStrs w lo hi a n l) (hb : Below B w w') (hB : hi ≤ B) : OwnStrs w' lo hi a n l :=
  h.kept fun j _ h2 => hb.block j (by omega)
theorem OwnStrs.more {w : World} {lo hi lo' hi' : Nat} {a : Option Addr} {n : Nat} {l : List ByteArray} (h : OwnStrs w lo hi a n l) (h1 : lo' ≤ lo) (h2 : hi ≤ hi') : OwnStrs w lo' hi' a n l :=
  ⟨h.1, fun hn => by
    obtain ⟨g, off, cs, e, a1, a2, r⟩ := h.2 hn
    exact ⟨g, off, cs, e, by omega, by omega, r⟩⟩
/-- A row that a call has appended to, read as such a slice. -/
theorem ownStrs_of_row {w : World} {base : Nat} {v : Value} {n : Nat} {l : List ByteArray} (h : w.ownsRow base 9 1 v n (l.map Value.string)) :
    ∃ a c, v = .slice a n c ∧ OwnStrs w base w.heap.size a n l := by
  have hl : l.length = n := by have := h.1; simpa using this
  rcases h.2 with ⟨e, e2⟩ | ⟨g, c, cur, e, hb, hg, hnc, _, hcs, ht⟩
  · have hn0 : n = 0 := by simpa using e2
    subst hn0
    exact ⟨none, 0, e, hl, fun h => absurd h (by omega)⟩
  · refine ⟨_, c, e, hl, fun hn => ⟨g, 0, cur, rfl, hb, (Array.getElem?_eq_some_iff.1 hg).1, hg, by omega, fun i hi' => ?_⟩⟩
    have h2 : (cur.toList.take (n * 1))[i]? = (l.map Value.string)[i]? := by rw [ht]
    rw [Nat.mul_one, List.getElem?_take_of_lt hi', List.getElem?_map, List.getElem?_eq_getElem (by omega : i < l.length)] at h2
    rw [Nat.zero_add, ← Array.getElem?_toList, h2, List.getD_eq_getElem?_getD, List.getElem?_eq_getElem (by omega)]
    rfl

theorem text_extS {x y : ByteArray} (h : x.toList = y.toList) : x = y := by
  rw [Lib.toList_data, Lib.toList_data] at h
  cases x; cases y
  simpa using h
theorem ret_boolS {a b : Bool} (h : a = b) : Ending.returned (.bool a) = .returned (.bool b) := by rw [h]
theorem take_getS (l : List ByteArray) (k : Nat) (h : k < l.length) : l.take (k + 1) = l.take k ++ [l.getD k ⟨#[]⟩] := by
  rw [List.take_succ_eq_append_getElem h, List.getD_eq_getElem?_getD, List.getElem?_eq_getElem h]; rfl
def EqPostS (xs ys : List ByteArray) (w : World) (e : Ending) (w' : World) : Prop := e = .returned (.bool (decide (xs = ys))) ∧ ∃ n, w' = w.drewN n
set_option maxRecDepth 100000 in
theorem eqStrs (w : World) (B B' : Nat) (a a' : Option Addr) (len cap len' cap' : Nat) (xs ys : List ByteArray) (h : Strs w B a len xs) (h' : Strs w B' a' len' ys) (hl : len ≤ 1048576) (hl' : len' ≤ 1048576) :
    Calls Try.prog 49 #[.slice a len cap, .slice a' len' cap'] w (EqPostS xs ys w) := by
  have hL := Lib.hid h.1
  have hL' := Lib.hid h'.1
  have H := Lib.hid h
  have H' := Lib.hid h'
  clear h h'
  by_cases hn : len = len'
  · subst hn
    go_enter Try.func49, Try.ntmps49
    go_wp2
    go_loopw [5] (fun i wr => ∃ k n : Nat, k ≤ len ∧ i = .int .i64 k ∧ wr = w.drewN n ∧ Hid (xs.take k = ys.take k)) (fun i _ => len - (intOf i).toNat)
    case atStart => exact ⟨0, 0, Nat.zero_le _, rfl, rfl, rfl⟩
    case round =>
      obtain ⟨k, n, hk, rfl, rfl, HA⟩ := hrel
      by_cases hlt : k < len
      · obtain ⟨b, off, rfl, hb, hc⟩ := H.out.2 k hlt
        obtain ⟨b', off', rfl, hb', hc'⟩ := H'.out.2 k hlt
        obtain ⟨x, hx⟩ : ∃ x, x = xs.getD k ⟨#[]⟩ := ⟨_, rfl⟩
        obtain ⟨y, hy⟩ : ∃ y, y = ys.getD k ⟨#[]⟩ := ⟨_, rfl⟩
        rw [← hx] at hc
        rw [← hy] at hc'
        have HX := Lib.hid hx
        have HY := Lib.hid hy
        have hki : (k : Int) < (len : Int) := by omega
        clear hx hy
        by_cases e : x = y
        · have hne : (!(x.toList == y.toList)) = false := by rw [e]; simp
          have HS : Hid (xs.take (k + 1) = ys.take (k + 1)) := by
            show _ = _
            rw [take_getS xs k (by rw [hL.out]; exact hlt), take_getS ys k (by rw [hL'.out]; exact hlt), HA.out, ← HX.out, ← HY.out, e]
          clear e
          go_wp2
          go_quiet (fail)
          go_wp2
          go_roundw
          case rel => exact ⟨k + 1, n + nq, by omega, by go_num, rfl, HS⟩
          case measure => simp [intOf]; omega
        · have hne : (!(x.toList == y.toList)) = true := by
            rw [Bool.not_eq_true', beq_eq_false_iff_ne]; exact fun h => e (text_extS h)
          have HV : Hid (decide (xs = ys) = false) := decide_eq_false (fun h => e (by rw [HX.out, HY.out, h]))
          clear e
          go_wp2
          go_quiet (fail)
          go_wp2
          go_ret
          exact ⟨ret_boolS HV.out.symm, n + nq, World.drewN_drewN ..⟩
      · have HV : Hid (decide (xs = ys) = true) := decide_eq_true (by
          have := HA.out
          rwa [List.take_of_length_le (by have := hL.out; omega), List.take_of_length_le (by have := hL'.out; omega)] at this)
        go_wp2
        go_ret
        exact ⟨ret_boolS HV.out.symm, n, rfl⟩
  · have hne : ((len : Int) != (len' : Int)) = true := by simp; omega
    have HV : Hid (decide (xs = ys) = false) := decide_eq_false (fun e => hn (by rw [← hL.out, ← hL'.out, e]))
    go_enter Try.func49, Try.ntmps49
    go_wp2
    go_ret
    exact ⟨ret_boolS HV.out.symm, 0, rfl⟩

/-- The text of a mark: the letter m and the digits of a number. -/
def digsS : Nat → Nat → ByteArray → ByteArray
  | 0, _, out => out
  | f + 1, k, out => if k = 0 then out else digsS f (k / 10) (strOfNums [48 + (k : Int) % 10] ++ out)
def mkS (m : Nat) : ByteArray := ⟨#[109]⟩ ++ digsS m m ⟨#[]⟩
theorem digsS_zero (f : Nat) (out : ByteArray) : digsS f 0 out = out := by cases f <;> rfl
theorem digsS_step {f k : Nat} (out : ByteArray) (h : 0 < k) (hf : k ≤ f) : ∃ f', k / 10 ≤ f' ∧ digsS f k out = digsS f' (k / 10) (strOfNums [48 + (k : Int) % 10] ++ out) := by
  obtain ⟨f', rfl⟩ : ∃ f', f = f' + 1 := ⟨f - 1, by omega⟩
  exact ⟨f', by omega, by show (if k = 0 then out else _) = _; rw [if_neg (by omega)]⟩
theorem run_digitS (W : World) (z : Int) : (convert 22 9 (.slice (some ⟨W.heap.size, 0, none⟩) 1 1)).run Try.prog (W.alloc (.cells #[.int .u8 z] 5)) = .ok (.string (strOfNums [z])) (W.alloc (.cells #[.int .u8 z] 5)) := by
  refine run_convert_bytes_arg _ 22 5 Try.underlying22 Try.underlying5 W.heap.size 0 1 1 [z] rfl (fun i hi => ?_) 9 Try.underlying9
  rw [cell_of_row _ _ _ _ _ _ (heap_alloc_new W _)]
  match i, hi with
  | 0, _ => rfl
set_option maxRecDepth 100000 in
set_option maxHeartbeats 5000000 in
theorem markTextS (q : Int) (m : Nat) (hq : q = m) (hm : 0 < m) (hm2 : m ≤ 100000000) (w : World) : Calls Try.prog 103 #[.int .i64 q] w fun e w' => e = .returned (.string (mkS m)) ∧ Below w.heap.size w w' := by
  subst hq
  have HM : Hid (mkS m = ⟨#[109]⟩ ++ digsS m m ⟨#[]⟩) := rfl
  have hmi : (0 : Int) < (m : Int) := by omega
  have hm0 : ¬ m = 0 := by omega
  have hcv := run_digitS
  go_enter Try.func103, Try.ntmps103
  go_wp2
  go_loopw [0, 3] (fun n s wr => ∃ (j : Nat) (out : ByteArray), n = .int .i64 (j : Int) ∧ s = .string out ∧ j ≤ m ∧ out.size + j ≤ m ∧ Hid (∃ f, j ≤ f ∧ digsS f j out = digsS m m ⟨#[]⟩) ∧ Hid (Below w.heap.size w wr)) (fun n _ _ => (intOf n).toNat)
  case atStart => exact ⟨m, ⟨#[]⟩, rfl, rfl, Nat.le_refl _, (by show 0 + m ≤ m; omega), ⟨m, Nat.le_refl _, rfl⟩, Below.refl _ _⟩
  case round =>
    obtain ⟨j, out, rfl, rfl, hj, hsz, HD, HB⟩ := hrel
    by_cases h0 : 0 < j
    · have hji : (0 : Int) < (j : Int) := by omega
      have hs0 : (strOfNums [48 + (j : Int) % 10]).size ≤ 1 := by rw [strOfNums_size]; exact Nat.le_refl _
      have hso : out.size ≤ 100000000 := by omega
      have HDn : Hid (∃ f, j / 10 ≤ f ∧ digsS f (j / 10) (strOfNums [48 + (j : Int) % 10] ++ out) = digsS m m ⟨#[]⟩) := by
        obtain ⟨f, hf, e⟩ := HD.out
        obtain ⟨f', hf', e'⟩ := digsS_step out h0 hf
        exact ⟨f', hf', e'.symm.trans e⟩
      have hs1 : (strOfNums [48 + (j : Int) % 10] ++ out).size ≤ 1 + out.size := by rw [ByteArray.size_append, strOfNums_size]; exact Nat.le_refl _
      have HBn := Lib.hid (HB.out.alloc HB.out.size (.cells #[.int .u8 (48 + (j : Int) % 10)] 5))
      go_wp2
      go_roundw
      case rel => exact ⟨j / 10, _, by go_num, rfl, by omega, by omega, HDn, HBn⟩
      case measure => simp [intOf]; omega
    · obtain rfl : j = 0 := by omega
      have HE : Hid (digsS m m ⟨#[]⟩ = out) := by
        obtain ⟨f, _, e⟩ := HD.out
        rw [digsS_zero] at e
        exact e.symm
      go_wp2
      go_ret
      exact ⟨by rw [HM.out, HE.out]; rfl, HB.out⟩

def strMarks (k n : Nat) : List ByteArray := (List.range n).map fun j => mkS (k + j)
theorem strMarks_len (k n : Nat) : (strMarks k n).length = n := by simp [strMarks]
theorem strMarks_at {k n i : Nat} (h : i < n) : (strMarks k n).getD i ⟨#[]⟩ = mkS (k + i) := by
  rw [List.getD_eq_getElem?_getD]
  simp [strMarks, h]
/-- Of the blocks that were there none has turned but those from lo up to hi. -/
structure BesideS (lo hi : Nat) (w w' : World) : Prop where
  os : w'.os = w.os
  tape : w'.tape = w.tape
  output : w'.output = w.output
  size : w.heap.size ≤ w'.heap.size
  block : ∀ j, j < w.heap.size → j < lo ∨ hi ≤ j → w'.heap[j]? = w.heap[j]?
theorem BesideS.refl (lo hi : Nat) (w : World) : BesideS lo hi w w := ⟨rfl, rfl, rfl, Nat.le_refl _, fun _ _ _ => rfl⟩
theorem BesideS.step {lo hi : Nat} {w w1 w2 : World} (h : BesideS lo hi w w1) (hb : Below w1.heap.size w1 w2) : BesideS lo hi w w2 :=
  ⟨hb.os.trans h.os, hb.tape.trans h.tape, hb.output.trans h.output, Nat.le_trans h.size hb.size, fun j h1 h2 => (hb.block j (by have := h.size; omega)).trans (h.block j h1 h2)⟩
theorem BesideS.put {w wr : World} {g i : Nat} {v : Value} (h : BesideS g (g + 1) w wr) : BesideS g (g + 1) w (wr.setCell ⟨g, i, none⟩ v) :=
  ⟨h.os, h.tape, h.output, by simpa [World.setCell] using h.size, fun j h1 h2 => (heap_setCell_other _ _ _ _ (by show j ≠ g; omega)).trans (h.block j h1 h2)⟩
theorem BesideS.below {lo hi B : Nat} {w w' : World} (h : BesideS lo hi w w') (hB : B ≤ lo) (hw : B ≤ w.heap.size) : Below B w w' := ⟨h.os, h.tape, h.output, h.size, fun k hk => h.block k (by omega) (.inl (by omega))⟩
theorem BesideS.wide {lo hi lo' hi' : Nat} {w w' : World} (h : BesideS lo hi w w') (h1 : lo' ≤ lo) (h2 : hi ≤ hi') : BesideS lo' hi' w w' :=
  ⟨h.os, h.tape, h.output, h.size, fun j a b => h.block j a (by omega)⟩
theorem OwnStrs.beside {w w' : World} {lo hi lo' hi' : Nat} {a : Option Addr} {n : Nat} {l : List ByteArray} (h : OwnStrs w lo hi a n l) (hb : BesideS lo' hi' w w') (hd : hi ≤ lo' ∨ hi' ≤ lo) (hw : hi ≤ w.heap.size) : OwnStrs w' lo hi a n l :=
  h.kept fun j h1 h2 => hb.block j (by omega) (by omega)
def StrMS (g off n k j : Nat) (w wr : World) : Prop :=
  BesideS g (g + 1) w wr ∧ ∃ cs : Array Value, wr.heap[g]? = some (.cells cs 9 (0, 0)) ∧ off + n ≤ cs.size ∧ ∀ t, t < j → cs[off + t]? = some (.string (mkS (k + t)))
def MarkStrs (k n lo hi : Nat) (a : Option Addr) (w : World) (e : Ending) (w' : World) : Prop :=
  (∃ m : Nat, m = k + n ∧ e = .returned (.int .i64 (m : Int))) ∧ OwnStrs w' lo hi a n (strMarks k n) ∧ BesideS lo hi w w'
set_option maxRecDepth 100000 in
set_option maxHeartbeats 5000000 in
theorem markStrs (w : World) (lo hi : Nat) (a : Option Addr) (n cap : Nat) (l : List ByteArray) (h : OwnStrs w lo hi a n l) (hh : hi ≤ w.heap.size) (k : Nat) (hk0 : 0 < k) (hk : k ≤ 20000000) (hn : n ≤ 1048576) :
    Calls Try.prog 50 #[.slice a n cap, .int .i64 (k : Int)] w (MarkStrs k n lo hi a w) := by
  by_cases h0 : 0 < n
  · obtain ⟨g, off, cur, rfl, hlo, hhi, hg, hs, hc⟩ := h.2 h0
    have HP0 : Hid (StrMS g off n k 0 w w) := ⟨BesideS.refl _ _ _, cur, hg, hs, fun t ht => absurd ht (by omega)⟩
    clear h hg hc hs
    go_enter Try.func50, Try.ntmps50
    go_wp2
    go_loopw [1, 5] (fun m i wr => ∃ j q : Nat, j ≤ n ∧ i = .int .i64 j ∧ m = .int .i64 q ∧ Hid (q = k + j) ∧ Hid (StrMS g off n k j w wr)) (fun _ i _ => n - (intOf i).toNat)
    case atStart => exact ⟨0, k, by omega, rfl, rfl, rfl, HP0⟩
    case round =>
      obtain ⟨j, q, hj, rfl, rfl, HQ, HP⟩ := hrel
      have hq : q ≤ 22000000 := by have := HQ.out; omega
      have hq0 : 0 < q := by have := HQ.out; omega
      by_cases hlt : j < n
      · go_wp2_with fail
        refine (markTextS _ q rfl hq0 (by omega) _).mono ?_
        rintro e w1 ⟨rfl, hb1⟩
        obtain ⟨hbs, cs, hgs, hsz, hct⟩ := HP.out
        have hgs1 : w1.heap[g]? = some (.cells cs 9 (0, 0)) := (hb1.block _ (Array.getElem?_eq_some_iff.1 hgs).1).trans hgs
        have c1 : w1.cell? ⟨g, off + j, none⟩ = some cs[off + j] := (cell_of_row _ _ _ _ _ _ hgs1).trans (Array.getElem?_eq_getElem (by omega))
        have f1 : w1.frozen? ⟨g, off + j, none⟩ = false := frozen_of_row _ _ _ _ _ hgs1
        generalize cs[off + j] = v at c1
        have HP' : Hid (StrMS g off n k (j + 1) w (w1.setCell ⟨g, off + j, none⟩ (.string (mkS q)))) := by
          refine ⟨(hbs.step hb1).put, cs.setIfInBounds (off + j) (.string (mkS q)), heap_setCell_same _ _ _ _ _ _ hgs1, by simpa using hsz, fun t ht => ?_⟩
          rw [Array.getElem?_setIfInBounds]
          by_cases e : j = t
          · subst e
            rw [if_pos rfl, if_pos (by omega), HQ.out]
          · rw [if_neg (by omega)]
            exact hct t (by omega)
        clear hbs hgs hgs1 hsz hct HP hb1
        go_wp2
        go_roundw
        case rel => exact ⟨j + 1, q + 1, by omega, by go_num, by go_num, (by have := HQ.out; show q + 1 = k + (j + 1); omega), HP'⟩
        case measure => simp [intOf]; omega
      · obtain rfl : j = n := by omega
        obtain ⟨hbs, cs, hgs, hsz, hct⟩ := HP.out
        have HO : Hid (MarkStrs k j lo hi (some ⟨g, off, none⟩) w (.returned (.int .i64 (q : Int))) wr) :=
          ⟨⟨q, HQ.out, rfl⟩, ⟨strMarks_len _ _, fun _ => ⟨g, off, cs, rfl, hlo, hhi, hgs, hsz, fun i hi => by rw [strMarks_at hi]; exact hct i hi⟩⟩, hbs.wide hlo hhi⟩
        clear hbs hgs hsz hct HP
        go_wp2
        go_ret
        exact HO.out
  · obtain rfl : n = 0 := by omega
    clear h
    go_enter Try.func50, Try.ntmps50
    go_wp2
    refine wp_loop_rounds 1 ?_
    rw [rounds_succ]
    go_wp2
    go_ret
    exact ⟨⟨k, rfl, rfl⟩, ⟨rfl, fun hn => absurd hn (by omega)⟩, BesideS.refl _ _ _⟩

def HeldStrs (m : Nat) (w : World) (e : Ending) (w' : World) : Prop := e = .returned (.int .i64 (m : Int)) ∧ Below w.heap.size w w'
set_option maxRecDepth 100000 in
set_option maxHeartbeats 5000000 in
theorem heldStrs (w : World) (B : Nat) (a : Option Addr) (n cap k : Nat) (h : Strs w B a n (strMarks k n)) (hB : B ≤ w.heap.size) (hk0 : 0 < k) (hk : k ≤ 4000000) (hn : n ≤ 1048576) :
    Calls Try.prog 51 #[.slice a n cap, .int .i64 (k : Int)] w (HeldStrs (k + n) w) := by
  have H := Lib.hid h
  clear h
  go_enter Try.func51, Try.ntmps51
  go_wp2
  go_loopw [1, 5] (fun m i wr => ∃ j q : Nat, j ≤ n ∧ i = .int .i64 j ∧ m = .int .i64 q ∧ Hid (q = k + j) ∧ Hid (Below w.heap.size w wr)) (fun _ i _ => n - (intOf i).toNat)
  case atStart => exact ⟨0, k, by omega, rfl, rfl, rfl, Below.refl _ _⟩
  case round =>
    obtain ⟨j, q, hj, rfl, rfl, HQ, HB⟩ := hrel
    have hq : q ≤ 6000000 := by have := HQ.out; omega
    have hq0 : 0 < q := by have := HQ.out; omega
    by_cases hlt : j < n
    · obtain ⟨b, off, rfl, hb, hc⟩ := (H.out.below HB.out hB).2 j hlt
      rw [strMarks_at hlt, ← HQ.out] at hc
      have hst : (!((mkS q).toList == (mkS q).toList)) = false := by rw [beq_self_eq_true]; rfl
      have hS : wr.drew.cell? ⟨b, off + j, none⟩ = some (.string (mkS q)) := hc
      clear hc
      go_wp2_with fail
      go_region_held3 (fun w' => w'.cell? ⟨b, off + j, none⟩ = some (.string (mkS q))) (first | with_reducible exact hS | with_reducible exact hS5)
        (first | (go_at_call 103; refine (markTextS (q : Int) q rfl hq0 (by omega) _).mono ?_; rintro e w5 ⟨rfl, hb5⟩; have hS5 : w5.cell? ⟨b, off + j, none⟩ = some (.string (mkS q)) := (hb5.cell (block_lt_of_cell hS)).trans hS))
      have HB5 := Lib.hid (HB.out.trans ((Below.mk hb5.os hb5.tape hb5.output hb5.size hb5.block : Below wr.heap.size wr w5).mono HB.out.size))
      clear hS hS5 hb5 HB
      go_wp2
      go_roundw
      case rel => exact ⟨j + 1, q + 1, by omega, by go_num, by go_num, (by have := HQ.out; show q + 1 = k + (j + 1); omega), HB5⟩
      case measure => simp [intOf]; omega
    · have HE : Hid (q = k + n) := by have := HQ.out; show q = k + n; omega
      go_wp2
      go_ret
      rw [← HE.out]
      exact ⟨rfl, HB.out⟩
end Go.Proofs.Ytejhmakfbmhhhaa
