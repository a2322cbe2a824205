/- The walks of laws.szInt64S, szCart, toCart, eqCart. -/
import Derived.Test.YtdbdmfaphdjdpaaEqOpsW
import Derived.Deep.Cut
namespace Go.Proofs.Ytdbdmfaphdjdpaa
open Go.RowKit

theorem szInts (a : Option Addr) (n cap left : Nat) (hl : left ≤ 1048576) (hn : n ≤ maxLen) (w : World) : Calls Try.prog 43 #[.slice a n cap, .int .i64 (left : Int)] w fun e w' => e = .returned (.int .i64 (if n ≤ left then ((left - n : Nat) : Int) else -1)) ∧ w = w' := by
  unfold maxLen at hn
  by_cases h : n ≤ left
  · have hd : decide ((left : Int) - (n : Int) < 0) = false := decide_eq_false (by omega)
    go_enter Try.func43, Try.ntmps43
    go_wp2
    go_ret
    exact ⟨ret_int (by omega), rfl⟩
  · have hd : decide ((left : Int) - (n : Int) < 0) = true := decide_eq_true (by omega)
    go_enter Try.func43, Try.ntmps43
    go_wp2
    go_ret
    exact ⟨rfl, rfl⟩
set_option maxRecDepth 100000 in
set_option maxHeartbeats 1000000 in
theorem szCart (w : World) (B : Nat) (av ao : Option Addr) (nv cv no co : Nat) (l : List OpV) (h : Ops w B ao no l) (hB : B ≤ w.heap.size) (hv : nv ≤ maxLen) (hn : no ≤ maxLen) (hm : ∀ i, i < no → (l.getD i OpV.zero).item.size ≤ maxLen) (left : Nat) (hl : left ≤ 1048576) :
    Calls Try.prog 7 #[.agg #[.slice av nv cv, .slice ao no co], .int .i64 (left : Int)] w (SzPost (nv + opsTotal l) left w) := by
  have hb0 : Below w.heap.size w (w.alloc (.cells #[.slice av nv cv, .slice ao no co] 25)) := (Below.refl _ w).alloc (Nat.le_refl _) _
  have H := Lib.hid (h.below hb0 hB)
  have HB := Lib.hid hb0
  have hsz : w.heap.size ≤ (w.alloc (.cells #[.slice av nv cv, .slice ao no co] 25)).heap.size := hb0.size
  have HM := Lib.hid hm
  clear h hb0 hm
  by_cases h1 : nv ≤ left
  rotate_left
  · have HF : Hid (¬ nv + opsTotal l ≤ left) := by show ¬ _; omega
    have HI : Hid ((if nv ≤ left then ((left - nv : Nat) : Int) else -1) = -1) := if_neg h1
    go_enter Try.func7, Try.ntmps7
    go_wp2_with fail
    refine (szInts av nv cv left hl hv _).mono ?_
    rintro e w1 ⟨rfl, rfl⟩
    rw [HI.out]
    go_wp2
    go_ret
    exact ⟨by rw [if_neg HF.out]; rfl, HB.out⟩
  have HI : Hid ((if nv ≤ left then ((left - nv : Nat) : Int) else -1) = ((left - nv : Nat) : Int)) := if_pos h1
  have hd : decide (((left - nv : Nat) : Int) < 0) = false := decide_eq_false (by omega)
  have hx : (w.alloc (.cells #[.slice av nv cv, .slice ao no co] 25)).heap[w.heap.size]? = some (.cells #[.slice av nv cv, .slice ao no co] 25 (0, 0)) := boxAt (Below.refl _ _)
  obtain ⟨c0, c1⟩ := pair_cells hx
  clear hx
  go_enter Try.func7, Try.ntmps7
  go_wp2_with fail
  refine (szInts av nv cv left hl hv _).mono ?_
  rintro e w1 ⟨rfl, rfl⟩
  rw [HI.out]
  go_wp2_with fail
  refine (szOps _ B ao no co l H.out (by omega) hn HM.out (left - nv) (by omega)).mono ?_
  rintro e w2 ⟨rfl, hb2⟩
  have HB2 := Lib.hid (HB.out.trans (hb2.mono HB.out.size))
  clear hb2 c0 c1
  by_cases h2 : opsTotal l ≤ left - nv
  · rw [if_pos h2]
    have HF : Hid (nv + opsTotal l ≤ left ∧ left - (nv + opsTotal l) = left - nv - opsTotal l) := ⟨by omega, by omega⟩
    have hd2 : decide (((left - nv - opsTotal l : Nat) : Int) < 0) = false := decide_eq_false (by omega)
    go_wp2
    go_ret
    exact ⟨by rw [if_pos HF.out.1, HF.out.2]; rfl, HB2.out⟩
  · rw [if_neg h2]
    have HF : Hid (¬ nv + opsTotal l ≤ left) := by show ¬ _; omega
    go_wp2
    go_ret
    exact ⟨by rw [if_neg HF.out]; rfl, HB2.out⟩
theorem ints_set {w : World} {B g : Nat} {n : Nat} {xs : List Int} {b i : Nat} {v : Value} (h : Ints w B (some ⟨g, 0, none⟩) n xs) (hne : g ≠ b) : Ints (w.setCell ⟨b, i, none⟩ v) B (some ⟨g, 0, none⟩) n xs :=
  ⟨h.1, fun j hj => by
    obtain ⟨c, off, e, hb, hc⟩ := h.2 j hj
    injection e with e
    injection e with e1 e2
    subst e1 e2
    exact ⟨g, 0, rfl, hb, (World.cell?_of_block (a := ⟨g, 0 + j, none⟩) (heap_setCell_other w ⟨b, i, none⟩ g v hne)).trans hc⟩⟩
theorem ops_set {w : World} {B g : Nat} {n : Nat} {l : List OpV} {b i : Nat} {v : Value} (h : Ops w B (some ⟨g, 0, none⟩) n l) (hne : g ≠ b) : Ops (w.setCell ⟨b, i, none⟩ v) B (some ⟨g, 0, none⟩) n l :=
  ⟨h.1, fun j hj => by
    obtain ⟨c, off, e, hb, hc⟩ := h.2 j hj
    injection e with e
    injection e with e1 e2
    subst e1 e2
    exact ⟨g, 0, rfl, hb, hc.kept (heap_setCell_other w ⟨b, i, none⟩ g v hne)⟩⟩

/-- A new cart with the same vector and operations is handed back. -/
def FreshCart (xs : List Int) (l : List OpV) (w : World) (e : Ending) (w' : World) : Prop :=
  ∃ av ao, e = .returned (.agg #[.slice av xs.length xs.length, .slice ao l.length l.length]) ∧ Ints w' w'.heap.size av xs.length xs ∧ Ops w' w'.heap.size ao l.length l ∧ Below w.heap.size w w'
structure Three (w w1 : World) (x y : Array Value) : Prop where
  arg : w1.heap[w.heap.size]? = some (.cells x 25 (0, 0))
  res : w1.heap[w.heap.size + 1]? = some (.cells #[.slice none 0 0, .slice none 0 0] 29 (0, 0))
  out : w1.heap[w.heap.size + 2]? = some (.cells y 29 (0, 0))
  bel : Below w.heap.size w w1
theorem Three.next {w w1 w2 : World} {x y : Array Value} (h : Three w w1 x y) (hb : Below w1.heap.size w1 w2) : Three w w2 x y :=
  ⟨(hb.block _ (Array.getElem?_eq_some_iff.1 h.arg).1).trans h.arg, (hb.block _ (Array.getElem?_eq_some_iff.1 h.res).1).trans h.res, (hb.block _ (Array.getElem?_eq_some_iff.1 h.out).1).trans h.out, h.bel.trans (hb.mono h.bel.size)⟩
theorem Three.put {w w1 : World} {x y : Array Value} (h : Three w w1 x y) (i : Nat) (v : Value) : Three w (w1.setCell ⟨w.heap.size + 2, i, none⟩ v) x (y.setIfInBounds i v) :=
  ⟨(heap_setCell_other _ _ _ _ (by show w.heap.size ≠ w.heap.size + 2; omega)).trans h.arg, (heap_setCell_other _ _ _ _ (by show w.heap.size + 1 ≠ w.heap.size + 2; omega)).trans h.res, heap_setCell_same _ _ _ _ _ _ h.out, h.bel.setCell (p := ⟨w.heap.size + 2, i, none⟩) (by show _ ≤ w.heap.size + 2; omega) v⟩
theorem three0 (w : World) (x y : Array Value) : Three w (((w.alloc (.cells x 25)).alloc (.cells #[.slice none 0 0, .slice none 0 0] 29)).alloc (.cells y 29)) x y := by
  have e1 : (w.heap.push (.cells x 25)).size = w.heap.size + 1 := by simp
  have e2 : ((w.heap.push (.cells x 25)).push (.cells #[.slice none 0 0, .slice none 0 0] 29)).size = w.heap.size + 2 := by simp
  refine ⟨?_, ?_, ?_, (((Below.refl _ w).alloc (Nat.le_refl _) _).alloc (by show _ ≤ (w.heap.push _).size; omega) _).alloc (by show _ ≤ ((w.heap.push _).push _).size; omega) _⟩
  · show (((w.heap.push _).push _).push _)[_]? = _
    rw [Array.getElem?_push_lt (by omega), ← Array.getElem?_eq_getElem, Array.getElem?_push_lt (by omega), ← Array.getElem?_eq_getElem, Array.getElem?_push_size]
  · show (((w.heap.push _).push _).push _)[_]? = _
    rw [Array.getElem?_push_lt (by omega), ← Array.getElem?_eq_getElem, ← e1, Array.getElem?_push_size]
  · show (((w.heap.push _).push _).push _)[_]? = _
    rw [← e2, Array.getElem?_push_size]

set_option maxRecDepth 100000 in
set_option maxHeartbeats 2000000 in
theorem toCart (w : World) (B : Nat) (av ao : Option Addr) (nv cv no co : Nat) (xs : List Int) (l : List OpV) (hx : Ints w B av nv xs) (h : Ops w B ao no l) (hB : B ≤ w.heap.size) (hv : nv ≤ 1048576) (hn : no ≤ 1048576) :
    Calls Try.prog 9 #[.agg #[.slice av nv cv, .slice ao no co]] w (FreshCart xs l w) := by
  have H3 := Lib.hid (three0 w #[.slice av nv cv, .slice ao no co] #[.slice none 0 0, .slice none 0 0])
  have HX := Lib.hid (hx.below H3.out.bel hB)
  have HO := Lib.hid (h.below H3.out.bel hB)
  have hL : no = l.length := h.1.symm
  have hLx : nv = xs.length := hx.1.symm
  have HL := Lib.hid hL
  have HLx := Lib.hid hLx
  clear hx h hL hLx
  go_enter Try.func9, Try.ntmps9
  go_upto_region 2 with fail
  generalize ((w.alloc (.cells #[.slice av nv cv, .slice ao no co] 25)).alloc (.cells #[.slice none 0 0, .slice none 0 0] 29)).alloc (.cells #[.slice none 0 0, .slice none 0 0] 29) = w0 at H3 HX HO ⊢
  obtain ⟨c0, c1⟩ := pair_cells H3.out.arg
  have hsz0 := H3.out.bel.size
  have hlt0 : w.heap.size + 2 < w0.heap.size := (Array.getElem?_eq_some_iff.1 H3.out.out).1
  go_wp2_with fail
  refine (toInts w0 B av nv cv xs HX.out (by omega) hv).mono ?_
  rintro e w1 ⟨rfl, hg1, hb1⟩
  have hI1 := fresh_ints hg1 (lt_of_block hg1)
  have H31 := Lib.hid (H3.out.next hb1)
  have HO1 := Lib.hid (HO.out.below hb1 (by omega))
  have hs1 := hb1.size
  have hlt1 := lt_of_block hg1
  clear c0 c1 hg1 hb1 HO HX H3
  obtain ⟨d0, d1⟩ := pair_cells H31.out.out
  obtain ⟨f0, f1⟩ := pair_frozen H31.out.out
  have H32 : Hid (Three w (w1.setCell ⟨w.heap.size + 2, 0, none⟩ (.slice (some ⟨w0.heap.size, 0, none⟩) xs.length xs.length)) #[.slice av nv cv, .slice ao no co] #[.slice (some ⟨w0.heap.size, 0, none⟩) xs.length xs.length, .slice none 0 0]) := H31.out.put 0 _
  have HO2 : Hid (Ops (w1.setCell ⟨w.heap.size + 2, 0, none⟩ (.slice (some ⟨w0.heap.size, 0, none⟩) xs.length xs.length)) B ao no l) := HO1.out.kept fun k hk => heap_setCell_other _ _ _ _ (by show k ≠ w.heap.size + 2; omega)
  have HI2 : Hid (Ints (w1.setCell ⟨w.heap.size + 2, 0, none⟩ (.slice (some ⟨w0.heap.size, 0, none⟩) xs.length xs.length)) w1.heap.size (some ⟨w0.heap.size, 0, none⟩) xs.length xs) := ints_set hI1 (by show w0.heap.size ≠ w.heap.size + 2; omega)
  have hsz2 : (w1.setCell ⟨w.heap.size + 2, 0, none⟩ (.slice (some ⟨w0.heap.size, 0, none⟩) xs.length xs.length)).heap.size = w1.heap.size := by simp [World.setCell]
  go_upto_region 3 with fail
  generalize w1.setCell ⟨w.heap.size + 2, 0, none⟩ (.slice (some ⟨w0.heap.size, 0, none⟩) xs.length xs.length) = w2 at H32 HO2 HI2 hsz2 ⊢
  generalize w0.heap.size = g0 at H32 HI2 hsz0 hlt0 hs1 hlt1 ⊢
  clear d0 d1 f0 f1 H31 HO1 hI1
  obtain ⟨c0, c1⟩ := pair_cells H32.out.arg
  have hs2 : w1.heap.size ≤ w2.heap.size := Nat.le_of_eq hsz2.symm
  clear hsz2
  go_wp2_with fail
  refine (toOps w2 B ao no co l HO2.out (by omega) hn).mono ?_
  rintro e w3 ⟨rfl, ho3, hlt3, hb3⟩
  have H33 := Lib.hid (H32.out.next hb3)
  have HI3 := Lib.hid (HI2.out.below hb3 (by omega))
  have HO3 := Lib.hid ho3
  have hs3 := hb3.size
  clear c0 c1 hb3 ho3 H32 HI2 HO2
  obtain ⟨d0, d1⟩ := pair_cells H33.out.out
  obtain ⟨f0, f1⟩ := pair_frozen H33.out.out
  have H34 : Hid (Three w (w3.setCell ⟨w.heap.size + 2, 1, none⟩ (.slice (some ⟨w2.heap.size, 0, none⟩) l.length l.length)) #[.slice av nv cv, .slice ao no co] #[.slice (some ⟨g0, 0, none⟩) xs.length xs.length, .slice (some ⟨w2.heap.size, 0, none⟩) l.length l.length]) := H33.out.put 1 _
  have HI4 : Hid (Ints (w3.setCell ⟨w.heap.size + 2, 1, none⟩ (.slice (some ⟨w2.heap.size, 0, none⟩) l.length l.length)) w1.heap.size (some ⟨g0, 0, none⟩) xs.length xs) := ints_set HI3.out (by omega)
  have HO4 : Hid (Ops (w3.setCell ⟨w.heap.size + 2, 1, none⟩ (.slice (some ⟨w2.heap.size, 0, none⟩) l.length l.length)) w3.heap.size (some ⟨w2.heap.size, 0, none⟩) l.length l) := ops_set HO3.out (by show w2.heap.size ≠ w.heap.size + 2; omega)
  have hsz4 : (w3.setCell ⟨w.heap.size + 2, 1, none⟩ (.slice (some ⟨w2.heap.size, 0, none⟩) l.length l.length)).heap.size = w3.heap.size := by simp [World.setCell]
  have HIk : Hid (∀ v0 v1 : Value, Ints (((w3.setCell ⟨w.heap.size + 2, 1, none⟩ (.slice (some ⟨w2.heap.size, 0, none⟩) l.length l.length)).setCell ⟨w.heap.size + 1, 0, none⟩ v0).setCell ⟨w.heap.size + 1, 1, none⟩ v1) w3.heap.size (some ⟨g0, 0, none⟩) xs.length xs) := fun v0 v1 => ints_set (ints_set (HI4.out.more (by omega)) (by omega)) (by omega)
  have HOk : Hid (∀ v0 v1 : Value, Ops (((w3.setCell ⟨w.heap.size + 2, 1, none⟩ (.slice (some ⟨w2.heap.size, 0, none⟩) l.length l.length)).setCell ⟨w.heap.size + 1, 0, none⟩ v0).setCell ⟨w.heap.size + 1, 1, none⟩ v1) w3.heap.size (some ⟨w2.heap.size, 0, none⟩) l.length l) := fun v0 v1 => ops_set (ops_set HO4.out (by omega)) (by omega)
  rw [← hsz4] at HIk HOk
  go_upto_region 4 with fail
  generalize w3.setCell ⟨w.heap.size + 2, 1, none⟩ (.slice (some ⟨w2.heap.size, 0, none⟩) l.length l.length) = w4 at H34 HI4 HO4 hsz4 HIk HOk ⊢
  generalize some (⟨w2.heap.size, 0, none⟩ : Addr) = oa at H34 HO4 HOk ⊢
  generalize some (⟨g0, 0, none⟩ : Addr) = va at H34 HI4 HIk ⊢
  clear d0 d1 f0 f1 H33 HI3 HO3
  obtain ⟨d0, d1⟩ := pair_cells H34.out.out
  obtain ⟨e0, e1⟩ := pair_cells H34.out.res
  obtain ⟨f0, f1⟩ := pair_frozen H34.out.res
  have HX := Lib.hid (pair_set (.slice va xs.length xs.length) (.slice oa l.length l.length) H34.out.res)
  have HBf := Lib.hid ((H34.out.bel.setCell (p := ⟨w.heap.size + 1, 0, none⟩) (by show _ ≤ w.heap.size + 1; omega) (.slice va xs.length xs.length)).setCell (p := ⟨w.heap.size + 1, 1, none⟩) (by show _ ≤ w.heap.size + 1; omega) (.slice oa l.length l.length))
  have hszf := pair_size w4 (w.heap.size + 1) (.slice va xs.length xs.length) (.slice oa l.length l.length)
  have HIf : Hid (Ints ((w4.setCell ⟨w.heap.size + 1, 0, none⟩ (.slice va xs.length xs.length)).setCell ⟨w.heap.size + 1, 1, none⟩ (.slice oa l.length l.length)) w4.heap.size va xs.length xs) := HIk.out _ _
  have HOf : Hid (Ops ((w4.setCell ⟨w.heap.size + 1, 0, none⟩ (.slice va xs.length xs.length)).setCell ⟨w.heap.size + 1, 1, none⟩ (.slice oa l.length l.length)) w4.heap.size oa l.length l) := HOk.out _ _
  clear HIk HOk H34 HI4 HO4
  go_wp2
  generalize (w4.setCell ⟨w.heap.size + 1, 0, none⟩ (.slice va xs.length xs.length)).setCell ⟨w.heap.size + 1, 1, none⟩ (.slice oa l.length l.length) = wf at HX HBf hszf HIf HOf ⊢
  clear d0 d1 e0 e1 f0 f1
  obtain ⟨d0, d1⟩ := pair_cells HX.out
  exact bodyPost_ret (v := .agg #[.slice va xs.length xs.length, .slice oa l.length l.length]) (by simp [results, Try.results9, go_sem, d0, d1]) rfl ⟨va, oa, rfl, HIf.out.more (Nat.le_of_eq hszf.symm), HOf.out.more (Nat.le_of_eq hszf.symm), HBf.out⟩
end Go.Proofs.Ytdbdmfaphdjdpaa
