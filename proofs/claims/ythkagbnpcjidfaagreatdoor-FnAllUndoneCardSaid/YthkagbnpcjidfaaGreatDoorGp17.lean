/- Walks and mathematics that several claims share, part 17. -/
import Derived.Test.YthkagbnpcjidfaaGreatDoorGp16
import Derived.Deep.Cut
import Derived.Deep.AppendLies
import Derived.Lib.SliceRun
import Derived.Lib.MinMax
import Derived.Deep.RegionHeld3
namespace Go.Proofs.YthkagbnpcjidfaaGreatDoor
set_option maxRecDepth 100000
open Go.RowKit
set_option linter.unusedVariables false
set_option linter.unusedSimpArgs false
def bR (o : aA) : List Value := [.int .i64 o.dev, .int .i64 o.seq, .int .i64 o.stamp, .int .i64 o.kind, .string o.item, .int .i64 o.qty, .int .i64 o.level, .int .i64 o.undos]
def aH : List aA → List Value
 | [] => []
 | x :: l => bR x ++ aH l
theorem eI : ∀ l : List aA, (aH l).length = l.length * 8
 | [] => rfl
 | x :: l => by
  show (bR x ++ aH l).length = _
  rw [List.length_append, eI l, List.length_cons]
  show 8 + _ = _
  omega
theorem iK (x : aA) : ∀ l : List aA, aH (l ++ [x]) = aH l ++ bR x
 | [] => by show bR x ++ [] = [] ++ bR x; rw [List.append_nil, List.nil_append]
 | y :: l => by
  show bR y ++ aH (l ++ [x]) = (bR y ++ aH l) ++ bR x
  rw [iK x l, List.append_assoc]
theorem sU : ∀ (l : List aA) (i u : Nat), i < l.length → u < 8 → (aH l)[i * 8 + u]? = (bR (l.getD i aA.zero))[u]?
 | x :: l, 0, u, _, hu => by
  show (bR x ++ aH l)[0 * 8 + u]? = (bR x)[u]?
  rw [Nat.zero_mul, Nat.zero_add, List.getElem?_append_left (by show u < 8; exact hu)]
 | x :: l, i + 1, u, hi, hu => by
  show (bR x ++ aH l)[(i + 1) * 8 + u]? = (bR (l.getD i aA.zero))[u]?
  rw [List.getElem?_append_right (by show 8 ≤ _; omega)]
  have e : (i + 1) * 8 + u - (bR x).length = i * 8 + u := by show _ - 8 = _; omega
  rw [e, sU l i u (by simpa using hi) hu]
theorem iG : ∀ l : List aA, ∀ u ∈ aH l, u.oneCell' = true
 | [], u, h => by cases h
 | x :: l, u, h => by
  rcases List.mem_append.1 h with h1 | h1
  ·simp only [bR, List.mem_cons, List.not_mem_nil, or_false] at h1
   rcases h1 with rfl | rfl | rfl | rfl | rfl | rfl | rfl | rfl <;> rfl
  ·exact iG l u h1
theorem eG {w : World} {base hi : Nat} {a : Option Addr} {n cap : Nat} {l : List aA} (h : w.ownsRow base 50 8 (.slice a n cap) n (aH l)) (hh : w.heap.size ≤ hi) : bB w base hi a n l := by
 have hl : l.length = n := by have := h.1; rw [eI] at this; omega
 refine ⟨hl, fun hn => ?_⟩
 rcases h.2 with ⟨e, _⟩ | ⟨g, c, aV, e, hb, hg, hnc, _, hs, ht⟩
 ·cases e; omega
 ·injection e with e1 e2 e3
  have key : ∀ i u, i < n → u < 8 → aV[0 + i * 8 + u]? = (bR (l.getD i aA.zero))[u]? := fun i u hi' hu => by
   have h2 : (aV.toList.take (n * 8))[i * 8 + u]? = (aH l)[i * 8 + u]? := by rw [ht]
   rw [List.getElem?_take_of_lt (by omega), sU l i u (by omega) hu] at h2
   rw [Nat.zero_add, ← Array.getElem?_toList, h2]
  refine ⟨g, 0, aV, e1, hb, by have := (aPv hg).1; omega, hg, by rw [hs]; have : n * 8 ≤ c * 8 := by omega
                                                                 omega, fun i hi' => ?_⟩
  exact ⟨key i 0 hi' (by omega), key i 1 hi' (by omega), key i 2 hi' (by omega), key i 3 hi' (by omega), key i 4 hi' (by omega), key i 5 hi' (by omega), key i 6 hi' (by omega), key i 7 hi' (by omega)⟩
theorem yZ {w : World} {B b off n : Nat} {l : List aA} (h : bK w B (some ⟨b, off, none⟩) n l) : ∀ j u, (aH l)[j]? = some u → w.cell? ((⟨b, off, none⟩ : Addr).add j) = some u := by
 intro j u hj
 have hjl : j < l.length * 8 := by
  rcases Nat.lt_or_ge j (l.length * 8) with h' | h'
  ·exact h'
  ·rw [List.getElem?_eq_none (by rw [eI]; exact h')] at hj; cases hj
 have hd : j = (j / 8) * 8 + j % 8 := by omega
 have hi : j / 8 < l.length := by omega
 obtain ⟨b', iE, e, _, ho⟩ := h.2 (j / 8) (by rw [← h.1]; exact hi)
 injection e with e
 injection e with e1 e2
 subst e1 e2
 rw [hd, sU l _ _ hi (by omega)] at hj
 rw [tQ]
 have hm : j % 8 < 8 := by omega
 obtain ⟨h0, h1, h2, h3, h4, h5, h6, h7⟩ := ho
 have hj8 : off + j = off + j / 8 * 8 + j % 8 := by omega
 rw [hj8]
 generalize j % 8 = m at hj hm ⊢
 obtain rfl | rfl | rfl | rfl | rfl | rfl | rfl | rfl : m = 0 ∨ m = 1 ∨ m = 2 ∨ m = 3 ∨ m = 4 ∨ m = 5 ∨ m = 6 ∨ m = 7 := by omega
 ·cases hj
  exact h0
 ·cases hj
  exact h1
 ·cases hj
  exact h2
 ·cases hj
  exact h3
 ·cases hj
  exact h4
 ·cases hj
  exact h5
 ·cases hj
  exact h6
 ·cases hj
  exact h7
set_option maxHeartbeats 5000000 in
theorem aIC (w : World) (B b off n cap : Nat) (l : List aA) (h : bK w B (some ⟨b, off, none⟩) n l) (hB : B ≤ w.heap.size) (hl : n ≤ 1048576) : Calls Tryz.prog 100 #[.slice (some ⟨b, off, none⟩) n cap] w (xR l w) := by
 obtain ⟨i0, hi, gI, jK, jB⟩ := info_parts Tryz.infoOp
 have C6 := fun w => Lib.run_eql_slice_nil (P := Tryz.prog) w 25 50 (some ⟨b, off, none⟩) n cap 0 0 Tryz.underlying25
 have aY : (w.alloc (.cells #[] 50)).ownsRow w.heap.size 50 8 (.slice (some ⟨w.heap.size, 0, none⟩) 0 0) 0 [] := World.ownsRow_made w #[] 0 aPw (by unfold maxLen; omega) rfl
 have hL := aPu h.1
 have H := aPu h
 clear h
 go_enter Tryz.func100, Tryz.ntmps100
 go_wp2_with (at_builtin; refine wpList_append_own _ rfl _ _ 25 rfl w.heap.size 50 i0 (.agg #[.int .i64 0, .int .i64 0, .int .i64 0, .int .i64 0, .string ⟨#[]⟩, .int .i64 0, .int .i64 0, .int .i64 0]) 8 72 Tryz.underlying25 hi gI jK jB rfl (by decide) _ _ _ rfl aY ⟨b, off, none⟩ n cap (aH l) rfl ?c0 ?c1 ?c2 ?c3 ?c4 ?c5 ?_)
 case c0 => rw [eI, hL.out]
 case c1 => exact yZ (H.out.below ((Below.refl w.heap.size w).alloc aPw _) hB)
 case c2 => exact iG l
 case c3 => unfold maxLen; omega
 case c4 => omega
 case c5 => simp
 intro v' w1 lR gP hnn
 have aE := ((Below.refl w.heap.size w).alloc aPw _).grown gP (by simp) (fun j hj => (aY.lt j hj).1)
 have gF : w1.ownsRow w.heap.size 50 8 v' n (aH l) := by simpa using lR
 obtain ⟨a', fY, hv⟩ : ∃ a' fY, v' = .slice a' n fY := by
  rcases gF.2 with ⟨e, e2⟩ | ⟨g, c, aV, e, _⟩
  ·exact ⟨none, 0, by rw [e, e2]⟩
  ·exact ⟨_, _, e⟩
 subst hv
 have HO := aPu (eG (hi := w1.heap.size) gF aPw)
 clear lR gF gP aY hnn
 go_wp2
 go_ret
 exact ⟨a', fY, by rw [hL.out]; rfl, by rw [hL.out]; exact HO.out, aE⟩
set_option maxHeartbeats 5000000 in
theorem aG6 (w : World) (ad : Addr) (cap : Nat) : Calls Tryz.prog 100 #[.slice (some ad) 0 cap] w (xR [] w) := by
 obtain ⟨i0, hi, gI, jK, jB⟩ := info_parts Tryz.infoOp
 have C6 := fun w => Lib.run_eql_slice_nil (P := Tryz.prog) w 25 50 (some ad) 0 cap 0 0 Tryz.underlying25
 have aY : (w.alloc (.cells #[] 50)).ownsRow w.heap.size 50 8 (.slice (some ⟨w.heap.size, 0, none⟩) 0 0) 0 [] := World.ownsRow_made w #[] 0 aPw (by unfold maxLen; omega) rfl
 go_enter Tryz.func100, Tryz.ntmps100
 go_wp2_with (at_builtin; refine wpList_append_own _ rfl _ _ 25 rfl w.heap.size 50 i0 (.agg #[.int .i64 0, .int .i64 0, .int .i64 0, .int .i64 0, .string ⟨#[]⟩, .int .i64 0, .int .i64 0, .int .i64 0]) 8 72 Tryz.underlying25 hi gI jK jB rfl (by decide) _ _ _ rfl aY ad 0 cap [] rfl ?c0 ?c1 ?c2 ?c3 ?c4 ?c5 ?_)
 case c0 => rfl
 case c1 => intro j u hj; cases hj
 case c2 => intro u hu; cases hu
 case c3 => unfold maxLen; omega
 case c4 => omega
 case c5 => simp
 intro v' w1 lR gP hnn
 have aE := ((Below.refl w.heap.size w).alloc aPw _).grown gP (by simp) (fun j hj => (aY.lt j hj).1)
 obtain ⟨a', fY, hv⟩ : ∃ a' fY, v' = .slice a' 0 fY := by
  rcases lR.2 with ⟨e, _⟩ | ⟨g, c, aV, e, _⟩
  ·exact ⟨none, 0, e⟩
  ·exact ⟨_, _, e⟩
 subst hv
 clear lR gP aY hnn
 go_wp2
 go_ret
 exact ⟨a', fY, rfl, dV _ _ _ _, aE⟩
theorem aDd (w : World) : Calls Tryz.prog 100 #[.slice none 0 0] w fun e w' => e = .returned (.slice none 0 0) ∧ w = w' := by
 have C6 := fun w => Lib.run_eql_slice_nil (P := Tryz.prog) w 25 50 none 0 0 0 0 Tryz.underlying25
 go_enter Tryz.func100, Tryz.ntmps100
 go_wp2
 go_ret
 exact ⟨rfl, rfl⟩
theorem l9 (s : ByteArray) (h : s.size ≤ 1048576) (w : World) : Calls Tryz.prog 97 #[.string s] w fun e w' => e = .returned (.string s) ∧ Below w.heap.size w w' := by
 go_enter Tryz.func97, Tryz.ntmps97
 go_wp2_with fail
 refine (Tryz.stringslite_Clone s _ (by omega)).mono ?_
 rintro e w1 ⟨rfl, aE⟩
 go_wp2
 go_ret
 exact ⟨rfl, aE⟩
def CS (g off n : Nat) (l : List aA) (w wr : World) : Prop := Below w.heap.size w wr ∧ ∃ cs : Array Value, wr.heap[g]? = some (.cells cs 50 (0, 0)) ∧ off + n * 8 ≤ cs.size ∧ ∀ i, i < n → U0 cs (off + i * 8) (l.getD i aA.zero)
theorem CS.step {g off n : Nat} {l : List aA} {w wr w1 : World} (h : CS g off n l w wr) (hb : Below wr.heap.size wr w1) : CS g off n l w w1 := by
 obtain ⟨h1, cs, hg, r⟩ := h
 exact ⟨h1.trans (hb.mono h1.size), cs, (hb.block _ (aPv hg).1).trans hg, r⟩
theorem CS.put {g off n k : Nat} {l : List aA} {w wr : World} (h : CS g off n l w wr) (hg0 : w.heap.size ≤ g) (hk : k < n) : CS g off n l w (wr.setCell ⟨g, off + k * 8 + 4, none⟩ (.string (l.getD k aA.zero).item)) := by
 obtain ⟨h1, cs, hg, hs, hc⟩ := h
 refine ⟨h1.setCell (p := ⟨g, off + k * 8 + 4, none⟩) hg0 _, cs.setIfInBounds (off + k * 8 + 4) (.string (l.getD k aA.zero).item), heap_setCell_same _ _ _ _ _ _ hg, by simpa using hs, fun i hi => ?_⟩
 by_cases e : i = k
 ·subst e
  obtain ⟨h0, h1, h2, h3, h4, h5, h6, h7⟩ := hc i hi; exact ⟨(Array.getElem?_setIfInBounds_ne (by omega)).trans h0, (Array.getElem?_setIfInBounds_ne (by omega)).trans h1, (Array.getElem?_setIfInBounds_ne (by omega)).trans h2, (Array.getElem?_setIfInBounds_ne (by omega)).trans h3, Array.getElem?_setIfInBounds_self_of_lt (by omega), (Array.getElem?_setIfInBounds_ne (by omega)).trans h5, (Array.getElem?_setIfInBounds_ne (by omega)).trans h6, (Array.getElem?_setIfInBounds_ne (by omega)).trans h7⟩
 ·exact aCu (hc i hi) (by omega)
set_option maxHeartbeats 10000000 in
theorem aBS (w : World) (B : Nat) (a : Option Addr) (n cap : Nat) (l : List aA) (h : bK w B a n l) (hB : B ≤ w.heap.size) (hn : n ≤ 1048576) (jO : a = none → cap = 0) (hm : ∀ i, i < n → (l.getD i aA.zero).item.size ≤ 1048576) : Calls Tryz.prog 69 #[.slice a n cap] w (xR l w) := by
 by_cases h0 : 0 < n
 ·obtain ⟨b, off, rfl, hb, _⟩ := h.2 0 h0
  have HL := aPu h.1; have HM := aPu hm; clear hm jO
  go_enter Tryz.func69, Tryz.ntmps69
  go_wp2_with fail
  refine (aIC w B b off n cap l h hB hn).mono ?_
  rintro e w1 ⟨a1, c1, rfl, ho, aE⟩; have C2 : Hid (∃ g o1, a1 = some ⟨g, o1, none⟩ ∧ w.heap.size ≤ g ∧ CS g o1 n l w w1) := by
   rw [h.1] at ho; obtain ⟨g, o1, cs, e1, h1, h2, hg, hs, hc⟩ := ho.2 h0; exact ⟨g, o1, e1, h1, aE, cs, hg, hs, hc⟩
  clear ho aE h; obtain ⟨g, o1, rfl, hg0, hcs⟩ := C2.out; have HC := aPu hcs; clear hcs C2; rw [HL.out]; go_wp2
  go_loopw [4, 9] (fun _ i wr => ∃ k : Nat, k ≤ n ∧ i = .int .i64 (k : Int) ∧ Hid (CS g o1 n l w wr)) (fun _ i _ => n - (intOf i).toNat)
  case atStart => exact ⟨0, by omega, rfl, HC⟩
  case round =>
   obtain ⟨k, hk, rfl, HR⟩ := hrel
   by_cases aK : k < n
   rotate_left
   ·obtain rfl : k = n := by omega
    have HP : Hid (xR l w (.returned (.slice (some ⟨g, o1, none⟩) k c1)) wr) := by
     obtain ⟨h1, cs, hg, hs, hc⟩ := HR.out; exact ⟨some ⟨g, o1, none⟩, c1, by rw [HL.out], ⟨rfl, fun _ => ⟨g, o1, cs, rfl, hg0, (aPv hg).1, hg, by rw [HL.out]; exact hs, by rw [HL.out]; exact hc⟩⟩, h1⟩
    go_wp2
    go_ret
    exact HP.out
   have tI := HM.out k aK; have vZ := fun w2 (h : CS g o1 n l w w2) => h.put hg0 aK
   have rR := aPu vZ; clear vZ; have fL : Hid (∀ w2, CS g o1 n l w w2 → w2.cell? ⟨g, o1 + k * 8 + 4, none⟩ = some (.string (l.getD k aA.zero).item) ∧ w2.frozen? ⟨g, o1 + k * 8 + 4, none⟩ = false) := fun w2 h => by
    obtain ⟨_, cs, hg, _, hc⟩ := h; exact ⟨((hc k aK).at hg).2.2.2.2.1, aPy hg⟩
   generalize (l.getD k aA.zero).item = s at tI rR fL; have c4 := (fL.out wr HR.out).1
   go_wp2_with fail
   refine (l9 s tI _).mono ?_
   rintro e w2 ⟨rfl, aG⟩; have kP := aPu (HR.out.step aG); clear c4 aG HR; have c4 := (fL.out w2 kP.out).1; have f4 := (fL.out w2 kP.out).2; have zG := aPu (rR.out w2 kP.out); go_wp2
   go_roundw
   case rel => exact ⟨k + 1, by omega, by go_num, zG⟩
   case measure => simp [intOf]; omega
 ·obtain rfl : n = 0 := by omega
  have hl : l = [] := List.eq_nil_of_length_eq_zero h.1; subst hl; clear h0 hm; rcases a with _ | ad
  ·obtain rfl := jO rfl
   go_enter Tryz.func69, Tryz.ntmps69
   go_wp2_with fail
   refine (aDd w).mono ?_
   rintro e w1 ⟨rfl, rfl⟩; go_wp2
   refine wp_loop_rounds 1 ?_
   rw [rounds_succ]; go_wp2
   go_ret
   exact ⟨none, 0, rfl, dV _ _ _ _, Below.refl _ _⟩
  ·clear jO h
   go_enter Tryz.func69, Tryz.ntmps69
   go_wp2_with fail
   refine (aG6 w ad cap).mono ?_
   rintro e w1 ⟨a1, c1, rfl, ho, aE⟩; have HB := aPu aE; clear ho aE; go_wp2
   refine wp_loop_rounds 1 ?_
   rw [rounds_succ]; go_wp2
   go_ret
   exact ⟨a1, c1, rfl, dV _ _ _ _, HB.out⟩
def Own (w : World) (lo hi : Nat) (a : Option Addr) (n : Nat) (xs : List Int) : Prop :=
 xs.length = n ∧ (0 < n → ∃ g aV, a = some ⟨g, 0, none⟩ ∧ lo ≤ g ∧ g < hi ∧ w.heap[g]? = some (.cells aV 2 (0, 0)) ∧ ∀ i, i < n → aV[i]? = some (.int .i64 (xs.getD i 0)))
theorem Own.ints {w : World} {lo hi : Nat} {a : Option Addr} {n : Nat} {xs : List Int} (h : Own w lo hi a n xs) : Ints w hi a n xs :=
 ⟨h.1, fun i hi' => by
  obtain ⟨g, aV, e, _, eC, hg, hc⟩ := h.2 (by omega)
  exact ⟨g, 0, e, eC, by rw [aPx hg, Nat.zero_add]; exact hc i hi'⟩⟩
theorem Own.kept {w w' : World} {lo hi : Nat} {a : Option Addr} {n : Nat} {xs : List Int} (h : Own w lo hi a n xs) (hk : ∀ j, lo ≤ j → j < hi → w'.heap[j]? = w.heap[j]?) : Own w' lo hi a n xs :=
 ⟨h.1, fun hn => by
  obtain ⟨g, aV, e, h1, h2, hg, hc⟩ := h.2 hn; exact ⟨g, aV, e, h1, h2, (hk g h1 h2).trans hg, hc⟩⟩
theorem Own.below {w w' : World} {lo hi B : Nat} {a : Option Addr} {n : Nat} {xs : List Int} (h : Own w lo hi a n xs) (hb : Below B w w') (hB : hi ≤ B) : Own w' lo hi a n xs :=
 h.kept fun j _ h2 => hb.block j (by omega)
theorem Own.more {w : World} {lo hi lo' hi' : Nat} {a : Option Addr} {n : Nat} {xs : List Int} (h : Own w lo hi a n xs) (h1 : lo' ≤ lo) (h2 : hi ≤ hi') : Own w lo' hi' a n xs :=
 ⟨h.1, fun hn => by
  obtain ⟨g, aV, e, a1, a2, r⟩ := h.2 hn; exact ⟨g, aV, e, by omega, by omega, r⟩⟩
theorem aGa {w w' : World} {xs : List Int} {hi : Nat} (hg : w'.heap[w.heap.size]? = some (.cells (xs.map (Value.int .i64)).toArray 2 (0, 0))) (hh : w.heap.size < hi) : Own w' w.heap.size hi (some ⟨w.heap.size, 0, none⟩) xs.length xs :=
 ⟨rfl, fun _ => ⟨_, _, rfl, Nat.le_refl _, hh, hg, fun i hi' => by simp [List.getElem?_eq_getElem hi']⟩⟩
theorem sS {w : World} {base hi : Nat} {a : Option Addr} {n cap : Nat} {xs : List Int} (h : w.ownsRow base 2 1 (.slice a n cap) n (xs.map (Value.int .i64))) (hh : w.heap.size ≤ hi) : Own w base hi a n xs := by
 refine ⟨by have := h.1; simpa using this, fun hn => ?_⟩
 have hl : xs.length = n := by have := h.1; simpa using this
 rcases h.2 with ⟨e, _⟩ | ⟨g, c, aV, e, hb, hg, _, _, _, ht⟩
 ·cases e; omega
 ·injection e with e1 e2 e3
  refine ⟨g, aV, e1, hb, by have := (aPv hg).1; omega, hg, fun i hi' => ?_⟩
  have h2 : (aV.toList.take (n * 1))[i]? = (xs.map (Value.int .i64))[i]? := by rw [ht]
  rw [Nat.mul_one, List.getElem?_take_of_lt hi', List.getElem?_map, List.getElem?_eq_getElem (by omega : i < xs.length)] at h2
  rw [← Array.getElem?_toList, h2, List.getD_eq_getElem?_getD, List.getElem?_eq_getElem (by omega)]
  rfl
structure Outside (lo hi : Nat) (w w' : World) : Prop where
 os : w'.os = w.os
 tape : w'.tape = w.tape
 output : w'.output = w.output
 size : w'.heap.size = w.heap.size
 block : ∀ j, j < lo ∨ hi ≤ j → w'.heap[j]? = w.heap[j]?
theorem Outside.below {lo hi : Nat} {w w' : World} (h : Outside lo hi w w') {B : Nat} (hB : B ≤ lo) : Below B w w' := ⟨h.os, h.tape, h.output, Nat.le_of_eq h.size.symm, fun k hk => h.block k (.inl (by omega))⟩
theorem Own.outside {w w' : World} {lo hi lo' hi' : Nat} {a : Option Addr} {n : Nat} {xs : List Int} (h : Own w lo hi a n xs) (ho : Outside lo' hi' w w') (hd : hi ≤ lo' ∨ hi' ≤ lo) : Own w' lo hi a n xs :=
 h.kept fun j h1 h2 => ho.block j (by omega)
theorem jV.own {w wr : World} {g n : Nat} {l : List aA} (h : jV w wr g n l n) (hl : l.length = n) : bB wr g (g + 1) (some ⟨g, 0, none⟩) n l := by
 obtain ⟨h1, cs, hg, hs, hc⟩ := h
 refine ⟨hl, fun _ => ⟨g, 0, cs, rfl, Nat.le_refl _, Nat.lt_succ_self _, hg, by omega, fun i hi => ?_⟩⟩
 rw [Nat.zero_add]
 exact hc i hi
theorem Outside.beside {lo hi : Nat} {w w' : World} (h : Outside lo hi w w') : fM lo hi w w' := ⟨h.os, h.tape, h.output, Nat.le_of_eq h.size.symm, fun j _ hj => h.block j hj⟩
theorem fM.trans {lo hi : Nat} {w w1 w2 : World} (h : fM lo hi w w1) (h2 : fM lo hi w1 w2) : fM lo hi w w2 :=
 ⟨h2.os.trans h.os, h2.tape.trans h.tape, h2.output.trans h.output, Nat.le_trans h.size h2.size, fun j hj hd => (h2.block j (by have := h.size; omega) hd).trans (h.block j hj hd)⟩
theorem Below.beside {lo hi : Nat} {w w' : World} (h : Below w.heap.size w w') : fM lo hi w w' := ⟨h.os, h.tape, h.output, h.size, fun j hj _ => h.block j hj⟩
def oX (dev : Int) (o : aA) : Bool := decide (o.dev = dev)
def gG (xs : List Int) (l : List aA) (dev : Int) : List aA := if aD xs l = true then l.filter (oX dev) else []
theorem aCz {xs : List Int} {l : List aA} {dev : Int} (h : aD xs l = false) : gG xs l dev = [] := by unfold gG; rw [h]; rfl
theorem Q2 {xs : List Int} {l : List aA} {dev : Int} (h : aD xs l = true) : gG xs l dev = l.filter (oX dev) := by unfold gG; rw [if_pos h]
theorem aGk (xs : List Int) (l : List aA) (dev : Int) : (gG xs l dev).length ≤ l.length := by
 unfold gG
 split
 ·exact List.length_filter_le _ _
 ·exact Nat.zero_le _
theorem fX {xs : List Int} {l : List aA} (h : aD xs l = true) : cG xs = true ∧ (∀ d, d < 4 → iF xs l d = true) ∧ aL xs 4 = l.length := by
 unfold aD at h
 simp only [Bool.and_eq_true, List.all_eq_true, decide_eq_true_eq] at h
 exact ⟨h.1, fun d hd => h.2.1 d (by simpa using hd), h.2.2⟩
def oC (xs : List Int) (l : List aA) (d : Nat) : List aA := (l.drop (aL xs d)).take (xs.getD d 0).toNat
theorem xO {xs : List Int} {l : List aA} {d : Nat} (h : iF xs l d = true) : ∀ o ∈ oC xs l d, o.ok = true ∧ o.dev = (d : Int) := by
 unfold iF at h
 rw [Bool.and_eq_true] at h
 have hr := h.2
 unfold kR at hr
 rw [List.all_eq_true] at hr
 intro o ho
 obtain ⟨i, hi, e⟩ := List.mem_iff_getElem.1 ho
 have hic : i < (xs.getD d 0).toNat := by unfold oC at hi; rw [List.length_take] at hi; omega
 have hf := hr i (by simpa using hic)
 have ea : aB l (aL xs d + i) = o := by
  rw [← aAG (st := aL xs d) hic]; unfold aB; rw [List.getD_eq_getElem?_getD, ← e]
  show ((oC xs l d)[i]?).getD aA.zero = _
  rw [List.getElem?_eq_getElem hi]
  rfl
 unfold jT at hf
 rw [ea] at hf
 simp only [Bool.and_eq_true, decide_eq_true_eq] at hf
 exact ⟨hf.1, hf.2.1⟩
theorem J6 {xs : List Int} {l : List aA} (d : Nat) : l.drop (aL xs d) = oC xs l d ++ l.drop (aL xs (d + 1)) := by
 have e : l.drop (aL xs (d + 1)) = (l.drop (aL xs d)).drop (xs.getD d 0).toNat := by rw [List.drop_drop]; rfl
 rw [e]
 exact (List.take_append_drop _ _).symm
theorem aBF {xs : List Int} {l : List aA} (h : aL xs 4 = l.length) : l = oC xs l 0 ++ (oC xs l 1 ++ (oC xs l 2 ++ oC xs l 3)) := by
 have h0 := J6 (xs := xs) (l := l) 0
 have h1 := J6 (xs := xs) (l := l) 1
 have h2 := J6 (xs := xs) (l := l) 2
 have h3 := J6 (xs := xs) (l := l) 3
 have e4 : l.drop (aL xs 4) = [] := by rw [h]; exact List.drop_length
 rw [e4, List.append_nil] at h3
 rw [h3] at h2
 rw [h2] at h1
 rw [h1] at h0
 have z : l.drop (aL xs 0) = l := List.drop_zero
 rw [z] at h0
 exact h0
theorem xI {xs : List Int} {l : List aA} {d : Nat} (h : iF xs l d = true) (dev : Int) : (oC xs l d).filter (oX dev) = if dev = (d : Int) then oC xs l d else [] := by
 by_cases e : dev = (d : Int)
 ·rw [if_pos e]
  refine List.filter_eq_self.2 fun o ho => ?_
  unfold oX; exact decide_eq_true ((xO h o ho).2.trans e.symm)
 ·rw [if_neg e]
  refine List.filter_eq_nil_iff.2 fun o ho => ?_
  unfold oX; rw [decide_eq_true_eq]
  intro e2
  exact e (e2.symm.trans (xO h o ho).2)
theorem aBy {xs : List Int} {l : List aA} (h : aD xs l = true) {d : Nat} (hd : d < 4) : l.filter (oX (d : Int)) = oC xs l d := by
 obtain ⟨_, h1, h2⟩ := fX h
 have e := congrArg (List.filter (oX (d : Int))) (aBF (xs := xs) h2)
 rw [List.filter_append, List.filter_append, List.filter_append, xI (h1 0 (by omega)), xI (h1 1 (by omega)), xI (h1 2 (by omega)), xI (h1 3 (by omega))] at e
 rw [e]
 obtain rfl | rfl | rfl | rfl : d = 0 ∨ d = 1 ∨ d = 2 ∨ d = 3 := by omega
 ·simp
 ·simp
 ·simp
 ·simp
theorem aEP {xs : List Int} {l : List aA} {dev : Int} (h : cO dev 0 3 = false) : gG xs l dev = [] := by
 by_cases hc : aD xs l = true
 ·rw [Q2 hc]
  refine List.filter_eq_nil_iff.2 fun o ho => ?_
  obtain ⟨_, h1, h2⟩ := fX hc; rw [aBF (xs := xs) h2] at ho; have hn : ¬ (0 ≤ dev ∧ dev ≤ 3) := fun hh => by rw [eR.2 hh] at h; cases h
  unfold oX; rw [decide_eq_true_eq]
  intro e
  have : ∃ d : Nat, d < 4 ∧ o.dev = (d : Int) := by
   rcases List.mem_append.1 ho with h | h
   ·exact ⟨0, by omega, (xO (h1 0 (by omega)) o h).2⟩
   rcases List.mem_append.1 h with h | h
   ·exact ⟨1, by omega, (xO (h1 1 (by omega)) o h).2⟩
   rcases List.mem_append.1 h with h | h
   ·exact ⟨2, by omega, (xO (h1 2 (by omega)) o h).2⟩
   ·exact ⟨3, by omega, (xO (h1 3 (by omega)) o h).2⟩
  obtain ⟨d, hd, e2⟩ := this; omega
 ·exact aCz (by simpa using hc)
theorem E0 {xs : List Int} (h : cG xs = true) : ∀ d, d ≤ 4 → aL xs d ≤ 40 * d
 | 0, _ => Nat.le_refl _
 | d + 1, hd => by
  have h1 := E0 h d (by omega)
  have h2 := eM h (d := d) (by omega)
  show aL xs d + (xs.getD d 0).toNat ≤ _
  omega
theorem hC (xs : List Int) : ∀ d e, d ≤ e → aL xs d ≤ aL xs e
 | d, 0, h => by obtain rfl : d = 0 := by omega
                 exact Nat.le_refl _
 | d, e + 1, h => by
  rcases Nat.lt_or_ge d (e + 1) with h1 | h1
  ·exact Nat.le_trans (hC xs d e (by omega)) (Nat.le_add_right _ _)
  ·obtain rfl : d = e + 1 := by omega
   exact Nat.le_refl _
theorem aBR (dev : Int) (w : World) : Calls Tryz.prog 53 #[.int .i64 dev] w fun e w' => e = .returned (.bool (cO dev 0 3)) ∧ w = w' := by
 go_enter Tryz.func53, Tryz.ntmps53
 go_wp2_with fail
 refine (cE _ _ _ _).mono ?_
 rintro e w' ⟨rfl, rfl⟩
 go_wp2
 go_ret
 exact ⟨rfl, rfl⟩
set_option maxHeartbeats 5000000 in
theorem aHu (w : World) (B : Nat) (av ao : Option Addr) (cv no co : Nat) (xs : List Int) (hx : Ints w B av 4 xs) (hB : B ≤ w.heap.size) (bX : 4 ≤ cv) (hv : cG xs = true) (d : Nat) (hd : d < 4) : Calls Tryz.prog 72 #[.agg #[.slice av 4 cv, .slice ao no co], .int .i64 (d : Int), .int .i64 1] w fun e w' => e = .returned (.int .i64 (aL xs d : Int)) ∧ Below w.heap.size w w' := by
 have bC : Below w.heap.size w (w.alloc (.cells #[.slice av 4 cv, .slice ao no co] 27)) := (Below.refl _ w).alloc aPw _
 have HV := aPu (hx.below bC hB)
 have HB := aPu bC
 have HX := aPu (bE (Below.refl _ (w.alloc (.cells #[.slice av 4 cv, .slice ao no co] 27))))
 have HAt := aPu (fun d (hd : d < 4) => eM hv hd)
 have O1 := aPu (fun k (hk : k ≤ 4) => E0 hv k hk)
 have hdi : (d : Int) ≤ (cv : Int) := by omega
 clear hx bC hv
 go_enter Tryz.func72, Tryz.ntmps72
 go_wp2_with fail
 generalize w.alloc (.cells #[.slice av 4 cv, .slice ao no co] 27) = w0 at HV HB HX ⊢
 obtain ⟨c0, c1⟩ := pair_cells HX.out
 go_wp2
 go_loop [7, 17] (fun q i => ∃ k m : Nat, k ≤ d ∧ i = .int .i64 (k : Int) ∧ q = .int .i64 (m : Int) ∧ m ≤ 160 ∧ Hid (m = aL xs k)) (fun _ i => d - (intOf i).toNat)
 case atStart => exact ⟨0, 0, by omega, rfl, rfl, by omega, rfl⟩
 case round =>
  obtain ⟨k, m, hk, rfl, rfl, hm, HM⟩ := hrel
  by_cases aK : k < d
  ·obtain ⟨bv, ov, rfl, hbv, aIk⟩ := HV.out.2 k (by omega)
   obtain ⟨g1, g2, g3⟩ := HAt.out k (by omega)
   have wP := O1.out (k + 1) (by omega)
   obtain ⟨c, uD⟩ := Int.eq_ofNat_of_zero_le g1; have bZ : Hid (m + c = aL xs (k + 1)) := by show _ = aL xs k + (xs.getD k 0).toNat; rw [uD, HM.out]; rfl
   have hmc : m + c ≤ 160 := by rw [bZ.out]; omega
   rw [uD] at aIk; clear uD g1 g2 g3 wP; go_wp2
   go_round
   case rel => exact ⟨k + 1, m + c, by omega, by go_num, by go_num, hmc, bZ⟩
   case measure => simp [intOf]; omega
  ·obtain rfl : k = d := by omega
   go_wp2
   go_ret
   exact ⟨by rw [HM.out]; rfl, HB.out⟩
theorem aGY {q : aA → Bool} {l : List aA} {k : Nat} (hk : k < l.length) : (l.take (k + 1)).filter q = if q (aB l k) = true then (l.take k).filter q ++ [aB l k] else (l.take k).filter q := by
 have e : l[k] = aB l k := by unfold aB; rw [List.getD_eq_getElem?_getD, List.getElem?_eq_getElem hk]; rfl
 rw [List.take_succ_eq_append_getElem hk, List.filter_append, e]
 by_cases h : q (aB l k) = true
 ·rw [if_pos h, List.filter_cons_of_pos h]; rfl
 ·rw [if_neg h, List.filter_cons_of_neg h]; simp
def K4 (xs : List Int) (w : World) (e : Ending) (w' : World) : Prop :=
 ∃ a cap, e = .returned (.slice a xs.length cap) ∧ Own w' w.heap.size w'.heap.size a xs.length xs ∧ Below w.heap.size w w' ∧ bQ a xs.length cap
def qE (f : Int → Int → Int) (xs ys : List Int) : List Int := List.zipWith f xs ys
theorem aFH (f : Int → Int → Int) (xs ys : List Int) (k : Nat) (h1 : k < xs.length) (h2 : k < ys.length) : (qE f xs ys).take (k + 1) = (qE f xs ys).take k ++ [f (xs.getD k 0) (ys.getD k 0)] := by
 have hk : k < (qE f xs ys).length := by unfold qE; rw [List.length_zipWith]; omega
 have e : (qE f xs ys)[k] = f (xs.getD k 0) (ys.getD k 0) := by
  have := List.getElem_zipWith (f := f) (l := xs) (l' := ys) (i := k) (h := hk); rw [List.getD_eq_getElem?_getD, List.getD_eq_getElem?_getD, List.getElem?_eq_getElem h1, List.getElem?_eq_getElem h2]; exact this
 rw [List.take_succ_eq_append_getElem hk, e]
theorem aBK {wr w1 : World} {o : Obj} {row : Option Nat} {b i : Nat} {v : Value} (hg : (wr.alloc o).drew.grownBy w1 row) (hb : b < wr.heap.size) (bJ : some b ≠ row) (h : wr.cell? ⟨b, i, none⟩ = some v) : w1.cell? ⟨b, i, none⟩ = some v :=
 (World.cell?_of_block (a := ⟨b, i, none⟩) ((hg.block b (by show b < (wr.heap.push o).size; simp; omega) bJ).trans (Below.heap_alloc wr o b hb))).trans h
def D9 (f : Int → Int → Int) (xs ys : List Int) : List Int := if (cG xs && cG ys) = true then qE f xs ys else []
theorem aFK {f : Int → Int → Int} {xs ys : List Int} (h : (cG xs && cG ys) = false) : D9 f xs ys = [] := by unfold D9; rw [h]; rfl
theorem aAa {f : Int → Int → Int} {xs ys : List Int} (h : (cG xs && cG ys) = true) : D9 f xs ys = qE f xs ys := by unfold D9; rw [if_pos h]
set_option maxHeartbeats 5000000 in
theorem aEI (w : World) (B B' : Nat) (a a' : Option Addr) (cap fY : Nat) (xs ys : List Int) (h : Ints w B a 4 xs) (h' : Ints w B' a' 4 ys) (hB : B ≤ w.heap.size) (hB' : B' ≤ w.heap.size) (hk : cG xs = true) (mY : cG ys = true) :
  Calls Tryz.prog 150 #[.slice a 4 cap, .slice a' 4 fY] w (K4 (qE max xs ys) w) := by
 obtain ⟨i0, hi, gI, jK, jB⟩ := info_parts Tryz.infoI64
 have gQ : Below w.heap.size w (w.alloc (.cells #[] 2)) := (Below.refl _ w).alloc aPw _
 have H := aPu h
 have H' := aPu h'
 have HA := aPu (h.below gQ hB)
 have HA' := aPu (h'.below gQ hB')
 have HK := aPu hk
 have HK' := aPu mY
 have aY := aPu (World.ownsRow_made (e := 2) (size := 1) w #[] 0 (Nat.le_refl w.heap.size) (by unfold maxLen; omega) rfl)
 have HbA := aPu gQ
 clear h h' hk mY gQ
 go_enter Tryz.func150, Tryz.ntmps150
 go_wp2_with fail
 refine (pC _ B a 4 cap xs (by exact HA.out) (by omega)).mono ?_
 rintro e w1 ⟨rfl, rfl⟩
 rw [HK.out]
 go_wp2_with fail
 refine (pC _ B' a' 4 fY ys (by exact HA'.out) (by omega)).mono ?_
 rintro e w1 ⟨rfl, rfl⟩
 rw [HK'.out]
 go_wp2
 go_loopw [5, 6] (fun v i wr => ∃ k : Nat, k ≤ 4 ∧ i = .int .i64 k ∧ Hid (wr.ownsRow w.heap.size 2 1 v k (((qE max xs ys).take k).map (Value.int .i64))) ∧ Below w.heap.size w wr) (fun _ i _ => 4 - (intOf i).toNat)
 case atStart => exact ⟨0, by omega, rfl, aY.out, HbA.out⟩
 case round =>
  obtain ⟨k, hk, rfl, HO, oM⟩ := hrel; have hs := oM.size
  by_cases aK : k < 4
  ·obtain ⟨b, off, rfl, hb, c1⟩ := H.out.2 k aK
   obtain ⟨b', iE, rfl, T1, c2⟩ := H'.out.2 k aK; have T9 := (oM.cell (p := ⟨b, off + k, none⟩) (by show b < w.heap.size; omega)).trans c1
   have T8 := (oM.cell (p := ⟨b', iE + k, none⟩) (by show b' < w.heap.size; omega)).trans c2
   obtain ⟨x, hx⟩ : ∃ x, x = xs.getD k 0 := ⟨_, rfl⟩; obtain ⟨y, hy⟩ : ∃ y, y = ys.getD k 0 := ⟨_, rfl⟩; rw [← hx] at T9; rw [← hy] at T8; have HZ : Hid ((qE max xs ys).take (k + 1) = (qE max xs ys).take k ++ [max x y]) := by rw [hx, hy]; exact aFH _ _ _ _ (by rw [H.out.1]; exact aK) (by rw [H'.out.1]; exact aK)
   have hki : (k : Int) < 4 := by omega
   have hk0 : (0 : Int) ≤ (k : Int) := by omega
   clear hx hy c1 c2
   go_wp2_with fail
   have aLn : ∀ v : Value, wr.ownsRow w.heap.size 2 1 v k (((qE max xs ys).take k).map (Value.int .i64)) → some b ≠ v.ownBlock := fun v hv e => by have := (hv.lt b e.symm).1; omega
   have aLm : ∀ v : Value, wr.ownsRow w.heap.size 2 1 v k (((qE max xs ys).take k).map (Value.int .i64)) → some b' ≠ v.ownBlock := fun v hv e => by have := (hv.lt b' e.symm).1; omega
   have B9 := aPu (aLn _ HO.out); have mN := aPu (aLm _ HO.out); have hbw : b < wr.heap.size := by omega
   have aN3 : b' < wr.heap.size := by omega
   clear aLn aLm
   go_region_held3 (fun w' => w'.cell? ⟨b, off + k, none⟩ = some (.int .i64 x) ∧ w'.cell? ⟨b', iE + k, none⟩ = some (.int .i64 y)) (first | go_keep | exact ⟨aBK gP hbw B9.out T9, aBK gP aN3 mN.out T8⟩)
    ((refine step_append_lies _ (by rfl) _ _ _ (by rfl) w.heap.size 2 i0 _ 1 8 Tryz.underlying24 hi gI jK jB rfl (by omega) _ k _ (by rfl) ((HO.out.alloc _).drew) ⟨wr.heap.size, 0, none⟩ 1 1 [.int .i64 (max x y)] (by rfl) (by rfl) (World.news_of_block (cs := #[.int .i64 (max x y)]) (t := 2) (fr := (0, 0)) (heap_alloc_new wr _)) (by simp [Value.oneCell']) (by omega) (by unfold maxLen; omega) (by omega) (by simp; omega) (wr.heap.size + 1) (by simp) ?_; intro gg aN7 w1 tD gP yU tG))
   have cI := aPu (p := w1.ownsRow w.heap.size 2 1 (.slice (some ⟨gg, 0, none⟩) (k + 1) aN7) (k + 1) (((qE max xs ys).take (k + 1)).map (Value.int .i64))) (by rw [HZ.out]; simpa using tD)
   have aE := (oM.alloc hs (.cells #[.int .i64 (max x y)] 2)).drew.grown gP (by simp; omega) (fun j hj => (HO.out.lt j hj).1)
   clear tD gP yU; go_wp2
   go_roundw
   case rel => exact ⟨k + 1, by omega, by go_num, cI, aE⟩
   case measure => simp [intOf]; omega
  ·obtain rfl : k = 4 := by omega
   have E9 : (qE max xs ys).length = 4 := by unfold qE; rw [List.length_zipWith, H.out.1, H'.out.1]; rfl
   have ho := HO.out; rw [List.take_of_length_le (by omega)] at ho
   obtain ⟨g, c, hv, _, _⟩ := ho.form (by omega)
   subst hv; have HP := aPu (sS (hi := wr.heap.size) ho aPw); have HL := aPu E9; have HCp := aPu (gB ho); clear ho E9; go_wp2
   go_ret
   exact ⟨some ⟨g, 0, none⟩, c, by rw [HL.out]; rfl, by rw [HL.out]; exact HP.out, oM, by rw [HL.out]; exact HCp.out⟩
theorem aFX (w : World) (B B' : Nat) (a a' : Option Addr) (len cap lL fY : Nat) (xs ys : List Int) (h : Ints w B a len xs) (h' : Ints w B' a' lL ys) (hB : B ≤ w.heap.size) (hB' : B' ≤ w.heap.size) (hl : len ≤ 1048576) (hl' : lL ≤ 1048576)
  (ok ok' : Bool) (hk : cG xs = ok) (mY : cG ys = ok') (iP : (ok && ok') = false) :
  Calls Tryz.prog 150 #[.slice a len cap, .slice a' lL fY] w (K4 [] w) := by
 have gQ : Below w.heap.size w (w.alloc (.cells #[] 2)) := (Below.refl _ w).alloc aPw _
 have HA := aPu (h.below gQ hB)
 have HA' := aPu (h'.below gQ hB')
 have HK := aPu hk
 have HK' := aPu mY
 have HbA := aPu gQ
 clear h h' hk mY gQ
 cases ok
 ·clear iP
  go_enter Tryz.func150, Tryz.ntmps150
  go_wp2_with fail
  refine (pC _ B a len cap xs (by exact HA.out) hl).mono ?_
  rintro e w1 ⟨rfl, rfl⟩; rw [HK.out]; go_wp2
  go_ret
  exact ⟨some ⟨w.heap.size, 0, none⟩, 0, rfl, ⟨rfl, fun hn => absurd hn (by simp)⟩, HbA.out, aBZ _⟩
 ·cases ok'
  ·clear iP
   go_enter Tryz.func150, Tryz.ntmps150
   go_wp2_with fail
   refine (pC _ B a len cap xs (by exact HA.out) hl).mono ?_
   rintro e w1 ⟨rfl, rfl⟩; rw [HK.out]
   go_wp2_with fail
   refine (pC _ B' a' lL fY ys (by exact HA'.out) hl').mono ?_
   rintro e w1 ⟨rfl, rfl⟩; rw [HK'.out]; go_wp2
   go_ret
   exact ⟨some ⟨w.heap.size, 0, none⟩, 0, rfl, ⟨rfl, fun hn => absurd hn (by simp)⟩, HbA.out, aBZ _⟩
  ·cases iP
theorem aHm (w : World) (B B' : Nat) (a a' : Option Addr) (len cap lL fY : Nat) (xs ys : List Int) (h : Ints w B a len xs) (h' : Ints w B' a' lL ys) (hB : B ≤ w.heap.size) (hB' : B' ≤ w.heap.size) (hl : len ≤ 1048576) (hl' : lL ≤ 1048576) :
  Calls Tryz.prog 150 #[.slice a len cap, .slice a' lL fY] w (K4 (D9 max xs ys) w) := by
 cases hk : cG xs && cG ys
 ·rw [aFK hk]
  exact aFX w B B' a a' len cap lL fY xs ys h h' hB hB' hl hl' _ _ rfl rfl hk
 ·rw [aAa hk]
  rw [Bool.and_eq_true] at hk; obtain ⟨x0, x1, x2, x3, hx⟩ := four hk.1; obtain ⟨y0, y1, y2, y3, hy⟩ := four hk.2; obtain rfl : len = 4 := h.1.symm.trans (by rw [hx]; rfl)
  obtain rfl : lL = 4 := h'.1.symm.trans (by rw [hy]; rfl)
  exact aEI w B B' a a' cap fY xs ys h h' hB hB' hk.1 hk.2
end Go.Proofs.YthkagbnpcjidfaaGreatDoor
