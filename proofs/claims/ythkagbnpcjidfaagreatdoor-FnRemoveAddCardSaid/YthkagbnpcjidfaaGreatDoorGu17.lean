/- Walks and mathematics that several claims share, part 17. -/
import Derived.Test.YthkagbnpcjidfaaGreatDoorGu16
import Derived.Deep.Cut
import Derived.Deep.AppendLies
import Derived.Lib.SliceRun
import Derived.Lib.MinMax
import Derived.Deep.RegionHeld3
namespace Go.Proofs.YthkagbnpcjidfaaGreatDoor
set_option maxRecDepth 100000
open Go.RowKit
set_option linter.unusedVariables false
set_option linter.unusedSimpArgs false
def bV (o : aA) : List Value := [.int .i64 o.dev, .int .i64 o.seq, .int .i64 o.stamp, .int .i64 o.kind, .string o.item, .int .i64 o.qty, .int .i64 o.level, .int .i64 o.undos]
def aF : List aA → List Value
 | [] => []
 | x :: l => bV x ++ aF l
theorem eL : ∀ l : List aA, (aF l).length = l.length * 8
 | [] => rfl
 | x :: l => by
  show (bV x ++ aF l).length = _
  rw [List.length_append, eL l, List.length_cons]
  show 8 + _ = _
  omega
theorem jD (x : aA) : ∀ l : List aA, aF (l ++ [x]) = aF l ++ bV x
 | [] => by show bV x ++ [] = [] ++ bV x; rw [List.append_nil, List.nil_append]
 | y :: l => by
  show bV y ++ aF (l ++ [x]) = (bV y ++ aF l) ++ bV x
  rw [jD x l, List.append_assoc]
theorem sL : ∀ (l : List aA) (i u : Nat), i < l.length → u < 8 → (aF l)[i * 8 + u]? = (bV (l.getD i aA.zero))[u]?
 | x :: l, 0, u, _, hu => by
  show (bV x ++ aF l)[0 * 8 + u]? = (bV x)[u]?
  rw [Nat.zero_mul, Nat.zero_add, List.getElem?_append_left (by show u < 8; exact hu)]
 | x :: l, i + 1, u, hi, hu => by
  show (bV x ++ aF l)[(i + 1) * 8 + u]? = (bV (l.getD i aA.zero))[u]?
  rw [List.getElem?_append_right (by show 8 ≤ _; omega)]
  have e : (i + 1) * 8 + u - (bV x).length = i * 8 + u := by show _ - 8 = _; omega
  rw [e, sL l i u (by simpa using hi) hu]
theorem iY : ∀ l : List aA, ∀ u ∈ aF l, u.oneCell' = true
 | [], u, h => by cases h
 | x :: l, u, h => by
  rcases List.mem_append.1 h with h1 | h1
  ·simp only [bV, List.mem_cons, List.not_mem_nil, or_false] at h1
   rcases h1 with rfl | rfl | rfl | rfl | rfl | rfl | rfl | rfl <;> rfl
  ·exact iY l u h1
theorem fV {w : World} {base hi : Nat} {a : Option Addr} {n cap : Nat} {l : List aA} (h : w.ownsRow base 50 8 (.slice a n cap) n (aF l)) (hh : w.heap.size ≤ hi) : bB w base hi a n l := by
 have hl : l.length = n := by have := h.1; rw [eL] at this; omega
 refine ⟨hl, fun hn => ?_⟩
 rcases h.2 with ⟨e, _⟩ | ⟨g, c, aW, e, hb, hg, hnc, _, hs, ht⟩
 ·cases e; omega
 ·injection e with e1 e2 e3
  have key : ∀ i u, i < n → u < 8 → aW[0 + i * 8 + u]? = (bV (l.getD i aA.zero))[u]? := fun i u hi' hu => by
   have h2 : (aW.toList.take (n * 8))[i * 8 + u]? = (aF l)[i * 8 + u]? := by rw [ht]
   rw [List.getElem?_take_of_lt (by omega), sL l i u (by omega) hu] at h2
   rw [Nat.zero_add, ← Array.getElem?_toList, h2]
  refine ⟨g, 0, aW, e1, hb, by have := (aPp hg).1; omega, hg, by rw [hs]; have : n * 8 ≤ c * 8 := by omega
                                                                 omega, fun i hi' => ?_⟩
  exact ⟨key i 0 hi' (by omega), key i 1 hi' (by omega), key i 2 hi' (by omega), key i 3 hi' (by omega), key i 4 hi' (by omega), key i 5 hi' (by omega), key i 6 hi' (by omega), key i 7 hi' (by omega)⟩
theorem yZ {w : World} {B b off n : Nat} {l : List aA} (h : bP w B (some ⟨b, off, none⟩) n l) : ∀ j u, (aF l)[j]? = some u → w.cell? ((⟨b, off, none⟩ : Addr).add j) = some u := by
 intro j u hj
 have hjl : j < l.length * 8 := by
  rcases Nat.lt_or_ge j (l.length * 8) with h' | h'
  ·exact h'
  ·rw [List.getElem?_eq_none (by rw [eL]; exact h')] at hj; cases hj
 have hd : j = (j / 8) * 8 + j % 8 := by omega
 have hi : j / 8 < l.length := by omega
 obtain ⟨b', sM, e, _, ho⟩ := h.2 (j / 8) (by rw [← h.1]; exact hi)
 injection e with e
 injection e with e1 e2
 subst e1 e2
 rw [hd, sL l _ _ hi (by omega)] at hj
 rw [tD]
 have hm : j % 8 < 8 := by omega
 obtain ⟨h0, h1, h2, h3, h4, h5, h6, h7⟩ := ho
 have hj8 : off + j = off + j / 8 * 8 + j % 8 := by omega
 rw [hj8]
 generalize j % 8 = m at hj hm ⊢
 obtain rfl | rfl | rfl | rfl | rfl | rfl | rfl | rfl : m = 0 ∨ m = 1 ∨ m = 2 ∨ m = 3 ∨ m = 4 ∨ m = 5 ∨ m = 6 ∨ m = 7 := by omega
 ·cases hj
  exact h0
 ·cases hj
  exact h1
 ·cases hj
  exact h2
 ·cases hj
  exact h3
 ·cases hj
  exact h4
 ·cases hj
  exact h5
 ·cases hj
  exact h6
 ·cases hj
  exact h7
set_option maxHeartbeats 5000000 in
theorem aIO (w : World) (B b off n cap : Nat) (l : List aA) (h : bP w B (some ⟨b, off, none⟩) n l) (hB : B ≤ w.heap.size) (hl : n ≤ 1048576) : Calls Tryz.prog 100 #[.slice (some ⟨b, off, none⟩) n cap] w (Y4 l w) := by
 obtain ⟨i0, hi, gK, jV, iS⟩ := info_parts Tryz.infoOp
 have o9 := fun w => Lib.run_eql_slice_nil (P := Tryz.prog) w 25 50 (some ⟨b, off, none⟩) n cap 0 0 Tryz.underlying25
 have aU : (w.alloc (.cells #[] 50)).ownsRow w.heap.size 50 8 (.slice (some ⟨w.heap.size, 0, none⟩) 0 0) 0 [] := World.ownsRow_made w #[] 0 aPq (by unfold maxLen; omega) rfl
 have hL := aPo h.1
 have H := aPo h
 clear h
 go_enter Tryz.func100, Tryz.ntmps100
 go_wp2_with (at_builtin; refine wpList_append_own _ rfl _ _ 25 rfl w.heap.size 50 i0 (.agg #[.int .i64 0, .int .i64 0, .int .i64 0, .int .i64 0, .string ⟨#[]⟩, .int .i64 0, .int .i64 0, .int .i64 0]) 8 72 Tryz.underlying25 hi gK jV iS rfl (by decide) _ _ _ rfl aU ⟨b, off, none⟩ n cap (aF l) rfl ?c0 ?c1 ?c2 ?c3 ?c4 ?c5 ?_)
 case c0 => rw [eL, hL.out]
 case c1 => exact yZ (H.out.below ((Below.refl w.heap.size w).alloc aPq _) hB)
 case c2 => exact iY l
 case c3 => unfold maxLen; omega
 case c4 => omega
 case c5 => simp
 intro v' w1 lX iB Z6
 have aG := ((Below.refl w.heap.size w).alloc aPq _).grown iB (by simp) (fun j hj => (aU.lt j hj).1)
 have gX : w1.ownsRow w.heap.size 50 8 v' n (aF l) := by simpa using lX
 obtain ⟨a', gF, hv⟩ : ∃ a' gF, v' = .slice a' n gF := by
  rcases gX.2 with ⟨e, e2⟩ | ⟨g, c, aW, e, _⟩
  ·exact ⟨none, 0, by rw [e, e2]⟩
  ·exact ⟨_, _, e⟩
 subst hv
 have HO := aPo (fV (hi := w1.heap.size) gX aPq)
 clear lX gX iB aU Z6
 go_wp2
 go_ret
 exact ⟨a', gF, by rw [hL.out]; rfl, by rw [hL.out]; exact HO.out, aG⟩
set_option maxHeartbeats 5000000 in
theorem aHj (w : World) (ad : Addr) (cap : Nat) : Calls Tryz.prog 100 #[.slice (some ad) 0 cap] w (Y4 [] w) := by
 obtain ⟨i0, hi, gK, jV, iS⟩ := info_parts Tryz.infoOp
 have o9 := fun w => Lib.run_eql_slice_nil (P := Tryz.prog) w 25 50 (some ad) 0 cap 0 0 Tryz.underlying25
 have aU : (w.alloc (.cells #[] 50)).ownsRow w.heap.size 50 8 (.slice (some ⟨w.heap.size, 0, none⟩) 0 0) 0 [] := World.ownsRow_made w #[] 0 aPq (by unfold maxLen; omega) rfl
 go_enter Tryz.func100, Tryz.ntmps100
 go_wp2_with (at_builtin; refine wpList_append_own _ rfl _ _ 25 rfl w.heap.size 50 i0 (.agg #[.int .i64 0, .int .i64 0, .int .i64 0, .int .i64 0, .string ⟨#[]⟩, .int .i64 0, .int .i64 0, .int .i64 0]) 8 72 Tryz.underlying25 hi gK jV iS rfl (by decide) _ _ _ rfl aU ad 0 cap [] rfl ?c0 ?c1 ?c2 ?c3 ?c4 ?c5 ?_)
 case c0 => rfl
 case c1 => intro j u hj; cases hj
 case c2 => intro u hu; cases hu
 case c3 => unfold maxLen; omega
 case c4 => omega
 case c5 => simp
 intro v' w1 lX iB Z6
 have aG := ((Below.refl w.heap.size w).alloc aPq _).grown iB (by simp) (fun j hj => (aU.lt j hj).1)
 obtain ⟨a', gF, hv⟩ : ∃ a' gF, v' = .slice a' 0 gF := by
  rcases lX.2 with ⟨e, _⟩ | ⟨g, c, aW, e, _⟩
  ·exact ⟨none, 0, e⟩
  ·exact ⟨_, _, e⟩
 subst hv
 clear lX iB aU Z6
 go_wp2
 go_ret
 exact ⟨a', gF, rfl, fH _ _ _ _, aG⟩
theorem aDg (w : World) : Calls Tryz.prog 100 #[.slice none 0 0] w fun e w' => e = .returned (.slice none 0 0) ∧ w = w' := by
 have o9 := fun w => Lib.run_eql_slice_nil (P := Tryz.prog) w 25 50 none 0 0 0 0 Tryz.underlying25
 go_enter Tryz.func100, Tryz.ntmps100
 go_wp2
 go_ret
 exact ⟨rfl, rfl⟩
theorem l6 (s : ByteArray) (h : s.size ≤ 1048576) (w : World) : Calls Tryz.prog 97 #[.string s] w fun e w' => e = .returned (.string s) ∧ Below w.heap.size w w' := by
 go_enter Tryz.func97, Tryz.ntmps97
 go_wp2_with fail
 refine (Tryz.stringslite_Clone s _ (by omega)).mono ?_
 rintro e w1 ⟨rfl, aG⟩
 go_wp2
 go_ret
 exact ⟨rfl, aG⟩
def CS (g off n : Nat) (l : List aA) (w wr : World) : Prop := Below w.heap.size w wr ∧ ∃ cs : Array Value, wr.heap[g]? = some (.cells cs 50 (0, 0)) ∧ off + n * 8 ≤ cs.size ∧ ∀ i, i < n → U1 cs (off + i * 8) (l.getD i aA.zero)
theorem CS.step {g off n : Nat} {l : List aA} {w wr w1 : World} (h : CS g off n l w wr) (hb : Below wr.heap.size wr w1) : CS g off n l w w1 := by
 obtain ⟨h1, cs, hg, r⟩ := h
 exact ⟨h1.trans (hb.mono h1.size), cs, (hb.block _ (aPp hg).1).trans hg, r⟩
theorem CS.put {g off n k : Nat} {l : List aA} {w wr : World} (h : CS g off n l w wr) (hg0 : w.heap.size ≤ g) (hk : k < n) : CS g off n l w (wr.setCell ⟨g, off + k * 8 + 4, none⟩ (.string (l.getD k aA.zero).item)) := by
 obtain ⟨h1, cs, hg, hs, hc⟩ := h
 refine ⟨h1.setCell (p := ⟨g, off + k * 8 + 4, none⟩) hg0 _, cs.setIfInBounds (off + k * 8 + 4) (.string (l.getD k aA.zero).item), heap_setCell_same _ _ _ _ _ _ hg, by simpa using hs, fun i hi => ?_⟩
 by_cases e : i = k
 ·subst e
  obtain ⟨h0, h1, h2, h3, h4, h5, h6, h7⟩ := hc i hi; exact ⟨(Array.getElem?_setIfInBounds_ne (by omega)).trans h0, (Array.getElem?_setIfInBounds_ne (by omega)).trans h1, (Array.getElem?_setIfInBounds_ne (by omega)).trans h2, (Array.getElem?_setIfInBounds_ne (by omega)).trans h3, Array.getElem?_setIfInBounds_self_of_lt (by omega), (Array.getElem?_setIfInBounds_ne (by omega)).trans h5, (Array.getElem?_setIfInBounds_ne (by omega)).trans h6, (Array.getElem?_setIfInBounds_ne (by omega)).trans h7⟩
 ·exact aCw (hc i hi) (by omega)
set_option maxHeartbeats 10000000 in
theorem aM7 (w : World) (B : Nat) (a : Option Addr) (n cap : Nat) (l : List aA) (h : bP w B a n l) (hB : B ≤ w.heap.size) (hn : n ≤ 1048576) (jJ : a = none → cap = 0) (hm : ∀ i, i < n → (l.getD i aA.zero).item.size ≤ 1048576) : Calls Tryz.prog 69 #[.slice a n cap] w (Y4 l w) := by
 by_cases h0 : 0 < n
 ·obtain ⟨b, off, rfl, hb, _⟩ := h.2 0 h0
  have HL := aPo h.1; have HM := aPo hm; clear hm jJ
  go_enter Tryz.func69, Tryz.ntmps69
  go_wp2_with fail
  refine (aIO w B b off n cap l h hB hn).mono ?_
  rintro e w1 ⟨a1, c1, rfl, ho, aG⟩; have D1 : Hid (∃ g o1, a1 = some ⟨g, o1, none⟩ ∧ w.heap.size ≤ g ∧ CS g o1 n l w w1) := by
   rw [h.1] at ho; obtain ⟨g, o1, cs, e1, h1, h2, hg, hs, hc⟩ := ho.2 h0; exact ⟨g, o1, e1, h1, aG, cs, hg, hs, hc⟩
  clear ho aG h; obtain ⟨g, o1, rfl, hg0, hcs⟩ := D1.out; have HC := aPo hcs; clear hcs D1; rw [HL.out]; go_wp2
  go_loopw [4, 9] (fun _ i wr => ∃ k : Nat, k ≤ n ∧ i = .int .i64 (k : Int) ∧ Hid (CS g o1 n l w wr)) (fun _ i _ => n - (intOf i).toNat)
  case atStart => exact ⟨0, by omega, rfl, HC⟩
  case round =>
   obtain ⟨k, hk, rfl, HR⟩ := hrel
   by_cases aJ : k < n
   rotate_left
   ·obtain rfl : k = n := by omega
    have HP : Hid (Y4 l w (.returned (.slice (some ⟨g, o1, none⟩) k c1)) wr) := by
     obtain ⟨h1, cs, hg, hs, hc⟩ := HR.out; exact ⟨some ⟨g, o1, none⟩, c1, by rw [HL.out], ⟨rfl, fun _ => ⟨g, o1, cs, rfl, hg0, (aPp hg).1, hg, by rw [HL.out]; exact hs, by rw [HL.out]; exact hc⟩⟩, h1⟩
    go_wp2
    go_ret
    exact HP.out
   have qG := HM.out k aJ; have wF := fun w2 (h : CS g o1 n l w w2) => h.put hg0 aJ
   have rO := aPo wF; clear wF; have fM : Hid (∀ w2, CS g o1 n l w w2 → w2.cell? ⟨g, o1 + k * 8 + 4, none⟩ = some (.string (l.getD k aA.zero).item) ∧ w2.frozen? ⟨g, o1 + k * 8 + 4, none⟩ = false) := fun w2 h => by
    obtain ⟨_, cs, hg, _, hc⟩ := h; exact ⟨((hc k aJ).at hg).2.2.2.2.1, aPs hg⟩
   generalize (l.getD k aA.zero).item = s at qG rO fM; have c4 := (fM.out wr HR.out).1
   go_wp2_with fail
   refine (l6 s qG _).mono ?_
   rintro e w2 ⟨rfl, aM⟩; have lM := aPo (HR.out.step aM); clear c4 aM HR; have c4 := (fM.out w2 lM.out).1; have f4 := (fM.out w2 lM.out).2; have vX := aPo (rO.out w2 lM.out); go_wp2
   go_roundw
   case rel => exact ⟨k + 1, by omega, by go_num, vX⟩
   case measure => simp [intOf]; omega
 ·obtain rfl : n = 0 := by omega
  have hl : l = [] := List.eq_nil_of_length_eq_zero h.1; subst hl; clear h0 hm; rcases a with _ | ad
  ·obtain rfl := jJ rfl
   go_enter Tryz.func69, Tryz.ntmps69
   go_wp2_with fail
   refine (aDg w).mono ?_
   rintro e w1 ⟨rfl, rfl⟩; go_wp2
   refine wp_loop_rounds 1 ?_
   rw [rounds_succ]; go_wp2
   go_ret
   exact ⟨none, 0, rfl, fH _ _ _ _, Below.refl _ _⟩
  ·clear jJ h
   go_enter Tryz.func69, Tryz.ntmps69
   go_wp2_with fail
   refine (aHj w ad cap).mono ?_
   rintro e w1 ⟨a1, c1, rfl, ho, aG⟩; have HB := aPo aG; clear ho aG; go_wp2
   refine wp_loop_rounds 1 ?_
   rw [rounds_succ]; go_wp2
   go_ret
   exact ⟨a1, c1, rfl, fH _ _ _ _, HB.out⟩
def Own (w : World) (lo hi : Nat) (a : Option Addr) (n : Nat) (xs : List Int) : Prop :=
 xs.length = n ∧ (0 < n → ∃ g aW, a = some ⟨g, 0, none⟩ ∧ lo ≤ g ∧ g < hi ∧ w.heap[g]? = some (.cells aW 2 (0, 0)) ∧ ∀ i, i < n → aW[i]? = some (.int .i64 (xs.getD i 0)))
theorem Own.ints {w : World} {lo hi : Nat} {a : Option Addr} {n : Nat} {xs : List Int} (h : Own w lo hi a n xs) : Ints w hi a n xs :=
 ⟨h.1, fun i hi' => by
  obtain ⟨g, aW, e, _, eH, hg, hc⟩ := h.2 (by omega)
  exact ⟨g, 0, e, eH, by rw [aPr hg, Nat.zero_add]; exact hc i hi'⟩⟩
theorem Own.kept {w w' : World} {lo hi : Nat} {a : Option Addr} {n : Nat} {xs : List Int} (h : Own w lo hi a n xs) (hk : ∀ j, lo ≤ j → j < hi → w'.heap[j]? = w.heap[j]?) : Own w' lo hi a n xs :=
 ⟨h.1, fun hn => by
  obtain ⟨g, aW, e, h1, h2, hg, hc⟩ := h.2 hn; exact ⟨g, aW, e, h1, h2, (hk g h1 h2).trans hg, hc⟩⟩
theorem Own.below {w w' : World} {lo hi B : Nat} {a : Option Addr} {n : Nat} {xs : List Int} (h : Own w lo hi a n xs) (hb : Below B w w') (hB : hi ≤ B) : Own w' lo hi a n xs :=
 h.kept fun j _ h2 => hb.block j (by omega)
theorem Own.more {w : World} {lo hi lo' hi' : Nat} {a : Option Addr} {n : Nat} {xs : List Int} (h : Own w lo hi a n xs) (h1 : lo' ≤ lo) (h2 : hi ≤ hi') : Own w lo' hi' a n xs :=
 ⟨h.1, fun hn => by
  obtain ⟨g, aW, e, a1, a2, r⟩ := h.2 hn; exact ⟨g, aW, e, by omega, by omega, r⟩⟩
theorem aGp {w w' : World} {xs : List Int} {hi : Nat} (hg : w'.heap[w.heap.size]? = some (.cells (xs.map (Value.int .i64)).toArray 2 (0, 0))) (hh : w.heap.size < hi) : Own w' w.heap.size hi (some ⟨w.heap.size, 0, none⟩) xs.length xs :=
 ⟨rfl, fun _ => ⟨_, _, rfl, Nat.le_refl _, hh, hg, fun i hi' => by simp [List.getElem?_eq_getElem hi']⟩⟩
theorem sJ {w : World} {base hi : Nat} {a : Option Addr} {n cap : Nat} {xs : List Int} (h : w.ownsRow base 2 1 (.slice a n cap) n (xs.map (Value.int .i64))) (hh : w.heap.size ≤ hi) : Own w base hi a n xs := by
 refine ⟨by have := h.1; simpa using this, fun hn => ?_⟩
 have hl : xs.length = n := by have := h.1; simpa using this
 rcases h.2 with ⟨e, _⟩ | ⟨g, c, aW, e, hb, hg, _, _, _, ht⟩
 ·cases e; omega
 ·injection e with e1 e2 e3
  refine ⟨g, aW, e1, hb, by have := (aPp hg).1; omega, hg, fun i hi' => ?_⟩
  have h2 : (aW.toList.take (n * 1))[i]? = (xs.map (Value.int .i64))[i]? := by rw [ht]
  rw [Nat.mul_one, List.getElem?_take_of_lt hi', List.getElem?_map, List.getElem?_eq_getElem (by omega : i < xs.length)] at h2
  rw [← Array.getElem?_toList, h2, List.getD_eq_getElem?_getD, List.getElem?_eq_getElem (by omega)]
  rfl
structure Outside (lo hi : Nat) (w w' : World) : Prop where
 os : w'.os = w.os
 tape : w'.tape = w.tape
 output : w'.output = w.output
 size : w'.heap.size = w.heap.size
 block : ∀ j, j < lo ∨ hi ≤ j → w'.heap[j]? = w.heap[j]?
theorem Outside.below {lo hi : Nat} {w w' : World} (h : Outside lo hi w w') {B : Nat} (hB : B ≤ lo) : Below B w w' := ⟨h.os, h.tape, h.output, Nat.le_of_eq h.size.symm, fun k hk => h.block k (.inl (by omega))⟩
theorem Own.outside {w w' : World} {lo hi lo' hi' : Nat} {a : Option Addr} {n : Nat} {xs : List Int} (h : Own w lo hi a n xs) (ho : Outside lo' hi' w w') (hd : hi ≤ lo' ∨ hi' ≤ lo) : Own w' lo hi a n xs :=
 h.kept fun j h1 h2 => ho.block j (by omega)
theorem jX.own {w wr : World} {g n : Nat} {l : List aA} (h : jX w wr g n l n) (hl : l.length = n) : bB wr g (g + 1) (some ⟨g, 0, none⟩) n l := by
 obtain ⟨h1, cs, hg, hs, hc⟩ := h
 refine ⟨hl, fun _ => ⟨g, 0, cs, rfl, Nat.le_refl _, Nat.lt_succ_self _, hg, by omega, fun i hi => ?_⟩⟩
 rw [Nat.zero_add]
 exact hc i hi
theorem Outside.beside {lo hi : Nat} {w w' : World} (h : Outside lo hi w w') : fN lo hi w w' := ⟨h.os, h.tape, h.output, Nat.le_of_eq h.size.symm, fun j _ hj => h.block j hj⟩
theorem fN.trans {lo hi : Nat} {w w1 w2 : World} (h : fN lo hi w w1) (h2 : fN lo hi w1 w2) : fN lo hi w w2 :=
 ⟨h2.os.trans h.os, h2.tape.trans h.tape, h2.output.trans h.output, Nat.le_trans h.size h2.size, fun j hj hd => (h2.block j (by have := h.size; omega) hd).trans (h.block j hj hd)⟩
theorem Below.beside {lo hi : Nat} {w w' : World} (h : Below w.heap.size w w') : fN lo hi w w' := ⟨h.os, h.tape, h.output, h.size, fun j hj _ => h.block j hj⟩
theorem jQ {xs : List Int} {l : List aA} (h : aE xs l = true) : cJ xs = true ∧ (∀ d, d < 4 → iQ xs l d = true) ∧ aO xs 4 = l.length := by
 unfold aE at h
 simp only [Bool.and_eq_true, List.all_eq_true, decide_eq_true_eq] at h
 exact ⟨h.1, fun d hd => h.2.1 d (by simpa using hd), h.2.2⟩
theorem X1 {xs : List Int} (h : cJ xs = true) : ∀ d, d ≤ 4 → aO xs d ≤ 40 * d
 | 0, _ => Nat.le_refl _
 | d + 1, hd => by
  have h1 := X1 h d (by omega)
  have h2 := fU h (d := d) (by omega)
  show aO xs d + (xs.getD d 0).toNat ≤ _
  omega
theorem jB (xs : List Int) : ∀ d e, d ≤ e → aO xs d ≤ aO xs e
 | d, 0, h => by obtain rfl : d = 0 := by omega
                 exact Nat.le_refl _
 | d, e + 1, h => by
  rcases Nat.lt_or_ge d (e + 1) with h1 | h1
  ·exact Nat.le_trans (jB xs d e (by omega)) (Nat.le_add_right _ _)
  ·obtain rfl : d = e + 1 := by omega
   exact Nat.le_refl _
def K7 (xs : List Int) (w : World) (e : Ending) (w' : World) : Prop :=
 ∃ a cap, e = .returned (.slice a xs.length cap) ∧ Own w' w.heap.size w'.heap.size a xs.length xs ∧ Below w.heap.size w w' ∧ bM a xs.length cap
def qJ (f : Int → Int → Int) (xs ys : List Int) : List Int := List.zipWith f xs ys
theorem aFY (f : Int → Int → Int) (xs ys : List Int) (k : Nat) (h1 : k < xs.length) (h2 : k < ys.length) : (qJ f xs ys).take (k + 1) = (qJ f xs ys).take k ++ [f (xs.getD k 0) (ys.getD k 0)] := by
 have hk : k < (qJ f xs ys).length := by unfold qJ; rw [List.length_zipWith]; omega
 have e : (qJ f xs ys)[k] = f (xs.getD k 0) (ys.getD k 0) := by
  have := List.getElem_zipWith (f := f) (l := xs) (l' := ys) (i := k) (h := hk); rw [List.getD_eq_getElem?_getD, List.getD_eq_getElem?_getD, List.getElem?_eq_getElem h1, List.getElem?_eq_getElem h2]; exact this
 rw [List.take_succ_eq_append_getElem hk, e]
theorem aBP {wr w1 : World} {o : Obj} {row : Option Nat} {b i : Nat} {v : Value} (hg : (wr.alloc o).drew.grownBy w1 row) (hb : b < wr.heap.size) (bO : some b ≠ row) (h : wr.cell? ⟨b, i, none⟩ = some v) : w1.cell? ⟨b, i, none⟩ = some v :=
 (World.cell?_of_block (a := ⟨b, i, none⟩) ((hg.block b (by show b < (wr.heap.push o).size; simp; omega) bO).trans (Below.heap_alloc wr o b hb))).trans h
def E7 (f : Int → Int → Int) (xs ys : List Int) : List Int := if (cJ xs && cJ ys) = true then qJ f xs ys else []
theorem aF1 {f : Int → Int → Int} {xs ys : List Int} (h : (cJ xs && cJ ys) = false) : E7 f xs ys = [] := by unfold E7; rw [h]; rfl
theorem aAa {f : Int → Int → Int} {xs ys : List Int} (h : (cJ xs && cJ ys) = true) : E7 f xs ys = qJ f xs ys := by unfold E7; rw [if_pos h]
set_option maxHeartbeats 5000000 in
theorem aEZ (w : World) (B B' : Nat) (a a' : Option Addr) (cap gF : Nat) (xs ys : List Int) (h : Ints w B a 4 xs) (h' : Ints w B' a' 4 ys) (hB : B ≤ w.heap.size) (hB' : B' ≤ w.heap.size) (hk : cJ xs = true) (qF : cJ ys = true) :
  Calls Tryz.prog 150 #[.slice a 4 cap, .slice a' 4 gF] w (K7 (qJ max xs ys) w) := by
 obtain ⟨i0, hi, gK, jV, iS⟩ := info_parts Tryz.infoI64
 have fA : Below w.heap.size w (w.alloc (.cells #[] 2)) := (Below.refl _ w).alloc aPq _
 have H := aPo h
 have H' := aPo h'
 have HA := aPo (h.below fA hB)
 have HA' := aPo (h'.below fA hB')
 have HK := aPo hk
 have HK' := aPo qF
 have aU := aPo (World.ownsRow_made (e := 2) (size := 1) w #[] 0 (Nat.le_refl w.heap.size) (by unfold maxLen; omega) rfl)
 have HbA := aPo fA
 clear h h' hk qF fA
 go_enter Tryz.func150, Tryz.ntmps150
 go_wp2_with fail
 refine (pB _ B a 4 cap xs (by exact HA.out) (by omega)).mono ?_
 rintro e w1 ⟨rfl, rfl⟩
 rw [HK.out]
 go_wp2_with fail
 refine (pB _ B' a' 4 gF ys (by exact HA'.out) (by omega)).mono ?_
 rintro e w1 ⟨rfl, rfl⟩
 rw [HK'.out]
 go_wp2
 go_loopw [5, 6] (fun v i wr => ∃ k : Nat, k ≤ 4 ∧ i = .int .i64 k ∧ Hid (wr.ownsRow w.heap.size 2 1 v k (((qJ max xs ys).take k).map (Value.int .i64))) ∧ Below w.heap.size w wr) (fun _ i _ => 4 - (intOf i).toNat)
 case atStart => exact ⟨0, by omega, rfl, aU.out, HbA.out⟩
 case round =>
  obtain ⟨k, hk, rfl, HO, pQ⟩ := hrel; have hs := pQ.size
  by_cases aJ : k < 4
  ·obtain ⟨b, off, rfl, hb, c1⟩ := H.out.2 k aJ
   obtain ⟨b', sM, rfl, a8, c2⟩ := H'.out.2 k aJ; have U0 := (pQ.cell (p := ⟨b, off + k, none⟩) (by show b < w.heap.size; omega)).trans c1
   have T9 := (pQ.cell (p := ⟨b', sM + k, none⟩) (by show b' < w.heap.size; omega)).trans c2
   obtain ⟨x, hx⟩ : ∃ x, x = xs.getD k 0 := ⟨_, rfl⟩; obtain ⟨y, hy⟩ : ∃ y, y = ys.getD k 0 := ⟨_, rfl⟩; rw [← hx] at U0; rw [← hy] at T9; have HZ : Hid ((qJ max xs ys).take (k + 1) = (qJ max xs ys).take k ++ [max x y]) := by rw [hx, hy]; exact aFY _ _ _ _ (by rw [H.out.1]; exact aJ) (by rw [H'.out.1]; exact aJ)
   have hki : (k : Int) < 4 := by omega
   have hk0 : (0 : Int) ≤ (k : Int) := by omega
   clear hx hy c1 c2
   go_wp2_with fail
   have aLs : ∀ v : Value, wr.ownsRow w.heap.size 2 1 v k (((qJ max xs ys).take k).map (Value.int .i64)) → some b ≠ v.ownBlock := fun v hv e => by have := (hv.lt b e.symm).1; omega
   have aLr : ∀ v : Value, wr.ownsRow w.heap.size 2 1 v k (((qJ max xs ys).take k).map (Value.int .i64)) → some b' ≠ v.ownBlock := fun v hv e => by have := (hv.lt b' e.symm).1; omega
   have C6 := aPo (aLs _ HO.out); have lN := aPo (aLr _ HO.out); have hbw : b < wr.heap.size := by omega
   have aN2 : b' < wr.heap.size := by omega
   clear aLs aLr
   go_region_held3 (fun w' => w'.cell? ⟨b, off + k, none⟩ = some (.int .i64 x) ∧ w'.cell? ⟨b', sM + k, none⟩ = some (.int .i64 y)) (first | go_keep | exact ⟨aBP iB hbw C6.out U0, aBP iB aN2 lN.out T9⟩)
    ((refine step_append_lies _ (by rfl) _ _ _ (by rfl) w.heap.size 2 i0 _ 1 8 Tryz.underlying24 hi gK jV iS rfl (by omega) _ k _ (by rfl) ((HO.out.alloc _).drew) ⟨wr.heap.size, 0, none⟩ 1 1 [.int .i64 (max x y)] (by rfl) (by rfl) (World.news_of_block (cs := #[.int .i64 (max x y)]) (t := 2) (fr := (0, 0)) (heap_alloc_new wr _)) (by simp [Value.oneCell']) (by omega) (by unfold maxLen; omega) (by omega) (by simp; omega) (wr.heap.size + 1) (by simp) ?_; intro gg aN6 w1 J8 iB hat uM))
   have dD := aPo (p := w1.ownsRow w.heap.size 2 1 (.slice (some ⟨gg, 0, none⟩) (k + 1) aN6) (k + 1) (((qJ max xs ys).take (k + 1)).map (Value.int .i64))) (by rw [HZ.out]; simpa using J8)
   have aG := (pQ.alloc hs (.cells #[.int .i64 (max x y)] 2)).drew.grown iB (by simp; omega) (fun j hj => (HO.out.lt j hj).1)
   clear J8 iB hat; go_wp2
   go_roundw
   case rel => exact ⟨k + 1, by omega, by go_num, dD, aG⟩
   case measure => simp [intOf]; omega
  ·obtain rfl : k = 4 := by omega
   have F1 : (qJ max xs ys).length = 4 := by unfold qJ; rw [List.length_zipWith, H.out.1, H'.out.1]; rfl
   have ho := HO.out; rw [List.take_of_length_le (by omega)] at ho
   obtain ⟨g, c, hv, _, _⟩ := ho.form (by omega)
   subst hv; have HP := aPo (sJ (hi := wr.heap.size) ho aPq); have HL := aPo F1; have HCp := aPo (gA ho); clear ho F1; go_wp2
   go_ret
   exact ⟨some ⟨g, 0, none⟩, c, by rw [HL.out]; rfl, by rw [HL.out]; exact HP.out, pQ, by rw [HL.out]; exact HCp.out⟩
theorem aGb (w : World) (B B' : Nat) (a a' : Option Addr) (len cap D7 gF : Nat) (xs ys : List Int) (h : Ints w B a len xs) (h' : Ints w B' a' D7 ys) (hB : B ≤ w.heap.size) (hB' : B' ≤ w.heap.size) (hl : len ≤ 1048576) (hl' : D7 ≤ 1048576)
  (ok ok' : Bool) (hk : cJ xs = ok) (qF : cJ ys = ok') (hM : (ok && ok') = false) :
  Calls Tryz.prog 150 #[.slice a len cap, .slice a' D7 gF] w (K7 [] w) := by
 have fA : Below w.heap.size w (w.alloc (.cells #[] 2)) := (Below.refl _ w).alloc aPq _
 have HA := aPo (h.below fA hB)
 have HA' := aPo (h'.below fA hB')
 have HK := aPo hk
 have HK' := aPo qF
 have HbA := aPo fA
 clear h h' hk qF fA
 cases ok
 ·clear hM
  go_enter Tryz.func150, Tryz.ntmps150
  go_wp2_with fail
  refine (pB _ B a len cap xs (by exact HA.out) hl).mono ?_
  rintro e w1 ⟨rfl, rfl⟩; rw [HK.out]; go_wp2
  go_ret
  exact ⟨some ⟨w.heap.size, 0, none⟩, 0, rfl, ⟨rfl, fun hn => absurd hn (by simp)⟩, HbA.out, aB1 _⟩
 ·cases ok'
  ·clear hM
   go_enter Tryz.func150, Tryz.ntmps150
   go_wp2_with fail
   refine (pB _ B a len cap xs (by exact HA.out) hl).mono ?_
   rintro e w1 ⟨rfl, rfl⟩; rw [HK.out]
   go_wp2_with fail
   refine (pB _ B' a' D7 gF ys (by exact HA'.out) hl').mono ?_
   rintro e w1 ⟨rfl, rfl⟩; rw [HK'.out]; go_wp2
   go_ret
   exact ⟨some ⟨w.heap.size, 0, none⟩, 0, rfl, ⟨rfl, fun hn => absurd hn (by simp)⟩, HbA.out, aB1 _⟩
  ·cases hM
theorem aHC (w : World) (B B' : Nat) (a a' : Option Addr) (len cap D7 gF : Nat) (xs ys : List Int) (h : Ints w B a len xs) (h' : Ints w B' a' D7 ys) (hB : B ≤ w.heap.size) (hB' : B' ≤ w.heap.size) (hl : len ≤ 1048576) (hl' : D7 ≤ 1048576) :
  Calls Tryz.prog 150 #[.slice a len cap, .slice a' D7 gF] w (K7 (E7 max xs ys) w) := by
 cases hk : cJ xs && cJ ys
 ·rw [aF1 hk]
  exact aGb w B B' a a' len cap D7 gF xs ys h h' hB hB' hl hl' _ _ rfl rfl hk
 ·rw [aAa hk]
  rw [Bool.and_eq_true] at hk; obtain ⟨x0, x1, x2, x3, hx⟩ := four hk.1; obtain ⟨y0, y1, y2, y3, hy⟩ := four hk.2; obtain rfl : len = 4 := h.1.symm.trans (by rw [hx]; rfl)
  obtain rfl : D7 = 4 := h'.1.symm.trans (by rw [hy]; rfl)
  exact aEZ w B B' a a' cap gF xs ys h h' hB hB' hk.1 hk.2
end Go.Proofs.YthkagbnpcjidfaaGreatDoor
