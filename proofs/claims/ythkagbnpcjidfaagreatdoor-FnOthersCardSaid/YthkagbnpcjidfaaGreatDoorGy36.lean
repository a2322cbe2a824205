/- Walks and mathematics that several claims share, part 36. -/
import Derived.Test.YthkagbnpcjidfaaGreatDoorGy24
import Derived.Test.YthkagbnpcjidfaaGreatDoorGy35
import Derived.Test.YthkagbnpcjidfaaGreatDoorGy16
import Derived.Test.YthkagbnpcjidfaaGreatDoorGy14
import Derived.Test.YthkagbnpcjidfaaGreatDoorGy23
import Derived.Test.YthkagbnpcjidfaaGreatDoorGy26
import Derived.Test.YthkagbnpcjidfaaGreatDoorGy21
import Derived.Deep.Cut
import Derived.Lib.Hide
import Derived.Test.YthkagbnpcjidfaaGreatDoorGyA
namespace Go.Proofs.YthkagbnpcjidfaaGreatDoor
set_option maxRecDepth 100000
open Go.RowKit
set_option linter.unusedVariables false
set_option linter.unusedSimpArgs false
set_option linter.unusedVariables false
set_option linter.unusedSimpArgs false

set_option maxHeartbeats 40000000 in
theorem aDP (w : World) (B : Nat) (av ao : Option Addr) (nv cv no co : Nat) (xs : List Int) (l : List aA) (kind qty dv sq : Int) (item : ByteArray) (hx : Ints w B av nv xs) (h : bS w B ao no l) (hB : B ≤ w.heap.size) (dev : Int) (hm : ∀ i, i < no → (aC l i).item.size ≤ 1048576) (hv : nv ≤ 1048576) (hn : no ≤ 1048576) (aBa : aE xs l = false) :
  Calls Tryz.prog 18 #[.agg #[.slice av nv cv, .slice ao no co], .int .i64 dev, .agg #[.int .i64 kind, .string item, .int .i64 qty, .int .i64 dv, .int .i64 sq]] w (tR 1 [] [] w) := by
 have hT := uY.mk0 w #[.slice av nv cv, .slice ao no co] #[.int .i64 kind, .string item, .int .i64 qty, .int .i64 dv, .int .i64 sq] #[.slice none 0 0, .slice none 0 0]
 have HV := aRA (hx.below hT.bel hB)
 have HO := aRA (h.below hT.bel hB)
 have HT := aRA hT
 have HM := aRA hm
 have aKI := aRA aBa
 clear hx h hT hm aBa
 go_enter Tryz.func18, Tryz.ntmps18
 go_upto_region 1 with fail
 generalize ((w.alloc (.cells #[.slice av nv cv, .slice ao no co] 27)).alloc (.cells #[.int .i64 kind, .string item, .int .i64 qty, .int .i64 dv, .int .i64 sq] 29)).alloc (.cells #[.slice none 0 0, .slice none 0 0] 27) = w0 at HV HO HT ⊢
 have mF := HT.out.lt
 obtain ⟨q0, q1⟩ := pair_cells HT.out.fst
 go_wp2_with fail
 refine (wF w0 B av ao nv cv no co xs l HV.out HO.out (by omega) hv hn HM.out).mono ?_
 rw [aKI.out]
 rintro e w1 ⟨rfl, aI⟩
 have aZ := aRA (HT.out.next aI)
 have fH := aI.size
 clear aI HT HV HO q0 q1
 obtain ⟨r0, r1⟩ := pair_cells aZ.out.res
 obtain ⟨f0, f1⟩ := aD aZ.out.res
 obtain ⟨bV, jZ⟩ := aZ.out.outN (w1 := w1) (va := none) (nv := 0) (vc := 0) (oa := none) (no := 0) (oc := 0) (code := 1) (zs := []) (m := []) (by omega) (uO.nil _ _ _)
 go_wp2
 generalize (w1.setCell ⟨w.heap.size + 1 + 1, 0, none⟩ (.slice none 0 0)).setCell ⟨w.heap.size + 1 + 1, 1, none⟩ (.slice none 0 0) = wf at bV jZ ⊢
 obtain ⟨p0, p1⟩ := pair_cells bV.out
 exact bodyPost_ret (v := .tuple #[.agg #[.slice none 0 0, .slice none 0 0], .int .i64 (1)]) (by simp [results, Tryz.results18, go_sem, p0, p1]) rfl jZ.out
/-- What a command answers, a cart of any vector. -/
def aQE (xs : List Int) (l : List aA) (dev kind : Int) (item : ByteArray) (qty dv sq : Int) : Int × List Int × List aA := bN xs l dev kind item qty dv sq
theorem aBE {xs : List Int} {l : List aA} (h : aE xs l = false) (dev kind : Int) (item : ByteArray) (qty dv sq : Int) : bN xs l dev kind item qty dv sq = (1, [], []) := by
 unfold bN
 rw [if_neg]
 rintro ⟨h1, _⟩
 rw [h] at h1
 cases h1
theorem wE (w : World) (B : Nat) (av ao : Option Addr) (nv cv no co : Nat) (xs : List Int) (l : List aA) (kind qty dv sq : Int) (item : ByteArray) (hx : Ints w B av nv xs) (h : bS w B ao no l) (hB : B ≤ w.heap.size) (bI : bP av nv cv) (bM : bP ao no co) (hi : item.size ≤ 1048576) (dev : Int) (hm : ∀ i, i < no → (aC l i).item.size ≤ 1048576) (hv : nv ≤ 1048576) (hn : no ≤ 1048576) :
  Calls Tryz.prog 18 #[.agg #[.slice av nv cv, .slice ao no co], .int .i64 dev, .agg #[.int .i64 kind, .string item, .int .i64 qty, .int .i64 dv, .int .i64 sq]] w (tR (bN xs l dev kind item qty dv sq).1 (bN xs l dev kind item qty dv sq).2.1 (bN xs l dev kind item qty dv sq).2.2 w) := by
 cases hc : aE xs l
 ·rw [aBE hc]
  exact aDP w B av ao nv cv no co xs l kind qty dv sq item hx h hB dev hm hv hn hc
 ·obtain rfl : nv = 4 := by rw [← hx.1]; exact (fJ hc).1
  exact aBp w B av ao cv no co xs l kind qty dv sq item hx h hB bI bM hi dev hm hn rfl
theorem oO (w : World) (B : Nat) (E : Int → Addr) (hE : eZ w B E) (av ao : Option Addr) (nv cv no co : Nat) (xs : List Int) (l : List aA) (dev kind qty dv sq : Int) (item : ByteArray) (hx : Ints w B av nv xs) (h : bS w B ao no l) (hB : B ≤ w.heap.size) (bI : nv ≤ cv) (bM : bP ao no co) (hv : nv ≤ 1048576) (hn : no ≤ 1048576) (hi : item.size ≤ 1048576) :
  Calls Tryz.prog 17 #[.agg #[.slice av nv cv, .slice ao no co], .int .i64 dev, .agg #[.int .i64 kind, .string item, .int .i64 qty, .int .i64 dv, .int .i64 sq]] w (C6 (bN xs l dev kind item qty dv sq) w) := by
 cases hc : aE xs l
 ·rw [aBE hc]
  exact aEq w B E hE av ao nv cv no co xs l dev kind qty dv sq item hx h hB hv bM.1 ⟨hn, bM.2.1⟩ hc
 ·obtain rfl : nv = 4 := by rw [← hx.1]; exact (fJ hc).1
  obtain ⟨g, off, e, _⟩ := hx.2 0 (by omega)
  subst e; exact aIp w B E hE g off ao cv no co xs l dev kind qty dv sq item hx h hB bI bM hn hi
set_option linter.unusedVariables false

theorem aDk {d : Nat} (hd : d < 4) : ∀ (U : List ByteArray) (zs : List Int) (m : List aA), aE zs m = true → (nN d U zs m).1 = 0 → aE (nN d U zs m).2.1 (nN d U zs m).2.2 = true
 | [], zs, m, h, _ => h
 | s :: U, zs, m, h, h0 => by
  unfold nN at h0 ⊢
  split at h0
  ·rename_i h1
   rw [if_pos h1]; exact aDk hd U _ _ (l7 h hd h1) h0
  ·rename_i h1
   exact absurd h0 h1
theorem j2 {xs : List Int} {l : List aA} (h : aE xs l = true) {dev s : Int} (h0 : (jK xs l dev s).1 = 0) : aE (jK xs l dev s).2.1 (jK xs l dev s).2.2 = true := by
 unfold jK at h0 ⊢
 split at h0
 ·rename_i h1
  rw [if_pos h1]
  split at h0
  ·cases h0
  ·rename_i h2
   rw [if_neg h2]; exact aBe h h1 h2
 ·cases h0
theorem aIK {xs : List Int} {l : List aA} (h : aE xs l = true) {d : Nat} (hd : d < 4) (h0 : (sS xs l d).1 = 0) : aE (sS xs l d).2.1 (sS xs l d).2.2 = true := by
 rw [V5 h hd] at h0 ⊢
 split at h0
 ·cases h0
 ·rename_i h1
  rw [if_neg h1]; exact aDk hd _ _ _ h h0
theorem aJr {xs : List Int} {l : List aA} (h : aE xs l = true) {d : Nat} (hd : d < 4) {kind : Int} {item : ByteArray} {qty dv sq : Int} (h0 : (jN xs l d kind item qty dv sq).1 = 0) : aE (jN xs l d kind item qty dv sq).2.1 (jN xs l d kind item qty dv sq).2.2 = true := by
 unfold jN at h0 ⊢
 split at h0
 ·rename_i h1
  rw [if_pos h1]; exact aIK h hd h0
 ·rename_i h1
  rw [if_neg h1]
  split at h0
  ·rename_i h1
   rw [if_pos h1]; exact j2 h h0
  ·rename_i h1
   rw [if_neg h1]
   split at h0
   ·rename_i h1
    rw [if_pos h1]; exact j2 h h0
   ·rename_i h1
    rw [if_neg h1]
    split at h0
    ·rename_i h1
     rw [if_pos h1]; exact j2 h h0
    ·rename_i h1
     rw [if_neg h1]; exact l7 h hd h0
/-- Whatever is answered: the form is wrong and there is nothing, or it is a right cart. -/
theorem zJ (xs : List Int) (l : List aA) (dev kind : Int) (item : ByteArray) (qty dv sq : Int) : bN xs l dev kind item qty dv sq = (1, [], []) ∨ aE (bN xs l dev kind item qty dv sq).2.1 (bN xs l dev kind item qty dv sq).2.2 = true := by
 unfold bN
 split
 ·rename_i hok
  right
  have jP := hok.2.1; unfold dD at jP; have hd := of_decide_eq_true jP
  split
  ·rename_i h0
   exact aJr hok.1 (by omega) h0
  ·exact hok.1
 ·exact .inl rfl
theorem aON (xs : List Int) (l : List aA) (dev kind : Int) (item : ByteArray) (qty dv sq : Int) : (bN xs l dev kind item qty dv sq).2.1.length ≤ 4 ∧ (bN xs l dev kind item qty dv sq).2.2.length ≤ 160 := by
 rcases zJ xs l dev kind item qty dv sq with h | h
 ·rw [h]
  exact ⟨by decide, by decide⟩
 ·exact ⟨Nat.le_of_eq (fJ h).1, eU h⟩
theorem eZ.kept {w w' : World} {B : Nat} {E : Int → Addr} (h : eZ w B E) (hk : ∀ j, j < B → w'.heap[j]? = w.heap[j]?) : eZ w' B E := by
 have hl := h.low
 refine ⟨h.low, fun c h1 h2 => ?_, fun c h1 h2 => ?_, h.ne, ?_⟩
 ·have := aIz c
  exact (World.cell?_of_block (a := ⟨gOf c, 0, none⟩) (hk _ (by show gOf c < B; omega))).trans (h.cells c h1 h2)
 ·obtain ⟨a, ca, ta, hc⟩ := h.lies c h1 h2
  exact ⟨a, ca, ta, (hk _ (by omega)).trans hc⟩
 ·exact (World.cell?_of_block (a := ⟨1, 0, none⟩) (hk _ (by show 1 < B; omega))).trans h.typ
theorem aQH {w : World} {B : Nat} {a : Option Addr} {n : Nat} {xs : List Int} (h : Ints w B a n xs) (hn : n ≤ 1048576) : bP a n n := by
 refine ⟨Nat.le_refl _, by unfold zR maxLen; omega, fun e => ?_⟩
 rcases Nat.eq_zero_or_pos n with q | q
 ·exact q
 ·obtain ⟨b, o, e2, _⟩ := h.2 0 q
  rw [e] at e2; cases e2
theorem aQG {w : World} {B : Nat} {a : Option Addr} {n : Nat} {l : List aA} (h : bS w B a n l) (hn : n ≤ 1048576) : bP a n n := by
 refine ⟨Nat.le_refl _, by unfold zR maxLen; omega, fun e => ?_⟩
 rcases Nat.eq_zero_or_pos n with q | q
 ·exact q
 ·obtain ⟨b, o, e2, _⟩ := h.2 0 q
  rw [e] at e2; cases e2
set_option linter.unusedVariables false

theorem aFt {zs : List Int} {m : List aA} (h : aE zs m = true) : vW zs m 160 :=
 ⟨(fJ h).1, fun d hd => ⟨((fJ h).2 d hd).1, by have := ((fJ h).2 d hd).2; omega⟩, fun i hi => by have := (dZ (fA h hi)).2.2.2.1; omega, fun i hi => (dZ (fA h hi)).2.2.2.2.1, eU h⟩
theorem aHA (w : World) (B : Nat) (av ao : Option Addr) (cv no co : Nat) (xs : List Int) (l : List aA) (kind qty dv sq : Int) (item : ByteArray) (hx : Ints w B av 4 xs) (h : bS w B ao no l) (hB : B ≤ w.heap.size) (bI : bP av 4 cv) (bM : bP ao no co) (hi : item.size ≤ 8) (dev : Int) (hm : ∀ i, i < no → (aC l i).item.size ≤ 1048576) (hn : no ≤ 1048576) :
  Calls Tryz.prog 18 #[.agg #[.slice av 4 cv, .slice ao no co], .int .i64 dev, .agg #[.int .i64 kind, .string item, .int .i64 qty, .int .i64 dv, .int .i64 sq]] w (aKl 320 w) := by
 obtain ⟨⟨c, zs, m⟩, hr⟩ : ∃ r, bN xs l dev kind item qty dv sq = r := ⟨_, rfl⟩
 refine (aBp w B av ao cv no co xs l kind qty dv sq item hx h hB bI bM (by omega) dev hm hn hr).mono fun e w' h => h.weak fun h0 => ?_
 have h1 := zJ xs l dev kind item qty dv sq
 rw [hr] at h1
 rcases h1 with h1 | h1
 ·injection h1 with h2 _
  omega
 ·exact (aFt h1).more (by omega)
set_option linter.unusedVariables false

theorem aHn (W : World) : (Instr.makeSlice 24 (.int .i64 4) (.int .i64 4)).run Tryz.prog W = .ok (.slice (some ⟨W.heap.size, 0, none⟩) 4 4) (W.alloc (.cells #[.int .i64 0, .int .i64 0, .int .i64 0, .int .i64 0] 2)) := by
 obtain ⟨i0, hi, iF, kO, jU⟩ := info_parts Tryz.infoI64
 have h := run_make (P := Tryz.prog) W 24 2 i0 (.int .i64 0) Tryz.underlying24 hi iF .i64 .i64 4 4 (by omega) (by omega) (by rw [jU]; omega) (by omega)
 rw [kO] at h
 have e : madeCells (Value.int .i64 0).cells (Int.toNat 4 * 1) = #[.int .i64 0, .int .i64 0, .int .i64 0, .int .i64 0] := by kernel_rfl
 rw [e] at h
 exact h
theorem aM1 (w : World) : Calls Tryz.prog 130 #[] w fun e w' => ∃ g, e = .returned (.slice (some ⟨g, 0, none⟩) 4 4) ∧ Own w' w.heap.size w'.heap.size (some ⟨g, 0, none⟩) 4 [0, 0, 0, 0] ∧ Below w.heap.size w w' := by
 have hm := aHn
 go_enter Tryz.func130, Tryz.ntmps130
 go_wp2
 go_ret
 exact ⟨_, rfl, aHP (xs := [0, 0, 0, 0]) (heap_alloc_new _ _) (by show _ < (w.heap.push _).size; simp), bl⟩
theorem aFd (w : World) : Calls Tryz.prog 104 #[] w fun e w' => ∃ g, e = .returned (.agg #[.slice (some ⟨g, 0, none⟩) 4 4, .slice none 0 0]) ∧ gO w' w.heap.size w'.heap.size (some ⟨g, 0, none⟩) 4 none 0 0 400 ∧ Below w.heap.size w w' := by
 go_enter Tryz.func104, Tryz.ntmps104
 go_wp2_with fail
 refine (aM1 _).mono ?_
 rintro e w1 ⟨g, rfl, ho, hb⟩
 have hx := bL hb
 have HB := aRA (jY hb)
 obtain ⟨c0, c1⟩ := pair_cells hx
 obtain ⟨f0, f1⟩ := aD hx
 have HX := aRA (cK (.slice (some ⟨g, 0, none⟩) 4 4) (.slice none 0 0) hx)
 have HO : Hid (Own ((w1.setCell ⟨w.heap.size, 0, none⟩ (.slice (some ⟨g, 0, none⟩) 4 4)).setCell ⟨w.heap.size, 1, none⟩ (.slice none 0 0)) w.heap.size w1.heap.size (some ⟨g, 0, none⟩) 4 [0, 0, 0, 0]) := (Own.kept ho fun j h1 h2 => aF _ _ (by have : w.heap.size < (w.alloc (.cells #[.slice none 0 0, .slice none 0 0] 27)).heap.size := by { show _ < (w.heap.push _).size; simp }; omega)).more (by show _ ≤ (w.heap.push _).size; simp) aRC
 have cA := aRA ((HB.out.setCell (p := ⟨w.heap.size, 0, none⟩) aRC (.slice (some ⟨g, 0, none⟩) 4 4)).setCell (p := ⟨w.heap.size, 1, none⟩) aRC (.slice none 0 0))
 have dK := aRA (bA w1 w.heap.size (.slice (some ⟨g, 0, none⟩) 4 4) (.slice none 0 0))
 clear hx hb ho
 go_wp2
 generalize (w1.setCell ⟨w.heap.size, 0, none⟩ (.slice (some ⟨g, 0, none⟩) 4 4)).setCell ⟨w.heap.size, 1, none⟩ (.slice none 0 0) = wf at HX HO cA dK ⊢
 obtain ⟨d0, d1⟩ := pair_cells HX.out
 refine bodyPost_ret (v := .agg #[.slice (some ⟨g, 0, none⟩) 4 4, .slice none 0 0]) (by simp [results, Tryz.results104, go_sem, d0, d1]) rfl ⟨g, rfl, ⟨[0, 0, 0, 0], [], rfl, HO.out.more aRC (Nat.le_of_eq dK.out.symm), gD _ _ _ _, ⟨Nat.le_refl _, by unfold zR maxLen; omega, fun h => by cases h⟩, dA, ?_⟩, cA.out⟩
 refine ⟨rfl, fun d hd => ?_, fun i hi => absurd hi (by simp), fun i hi => absurd hi (by simp), Nat.zero_le _⟩
 match d, hd with
 | 0, _ => exact ⟨Int.le_refl _, by show (0 : Int) ≤ 1000; omega⟩
 | 1, _ => exact ⟨Int.le_refl _, by show (0 : Int) ≤ 1000; omega⟩
 | 2, _ => exact ⟨Int.le_refl _, by show (0 : Int) ≤ 1000; omega⟩
 | 3, _ => exact ⟨Int.le_refl _, by show (0 : Int) ≤ 1000; omega⟩
/-- A cart as two slices. -/
structure cI where
 va : Option Addr
 vc : Nat
 oa : Option Addr
 no : Nat
 oc : Nat
def cI.zero : cI := ⟨none, 0, none, 0, 0⟩
def V6 (x : cI) : List Value := [.slice x.va 4 x.vc, .slice x.oa x.no x.oc]
def aL (l : List cI) (i : Nat) : cI := l.getD i cI.zero
def zL : List cI → List Value
 | [] => []
 | x :: l => V6 x ++ zL l
theorem aBI (x : cI) : ∀ l, zL (l ++ [x]) = zL l ++ V6 x
 | [] => rfl
 | q :: l => by show V6 q ++ zL (l ++ [x]) = (V6 q ++ zL l) ++ V6 x; rw [aBI x l, List.append_assoc]
theorem aEE : ∀ (l : List cI) (i : Nat), i < l.length → (zL l)[i * 2]? = some (.slice (aL l i).va 4 (aL l i).vc) ∧ (zL l)[i * 2 + 1]? = some (.slice (aL l i).oa (aL l i).no (aL l i).oc)
 | x :: l, 0, _ => ⟨rfl, rfl⟩
 | x :: l, i + 1, h => by
  have := aEE l i (by simpa using h)
  have e : (i + 1) * 2 = i * 2 + 2 := by omega
  rw [e]; exact this
theorem aMg {l : List cI} {x : cI} {i : Nat} (h : i < l.length) : aL (l ++ [x]) i = aL l i := by
 unfold aL; rw [List.getD_eq_getElem?_getD, List.getD_eq_getElem?_getD, List.getElem?_append_left h]
theorem aMh (l : List cI) (x : cI) : aL (l ++ [x]) l.length = x := by
 unfold aL; simp
theorem aF0 {l : List cI} {x : cI} {i k : Nat} (hk : k < l.length) : aL (l.set k x) i = if k = i then x else aL l i := by
 unfold aL; exact jM hk
def yB (w : World) (lo hi : Nat) (x : cI) : Prop := gO w lo hi x.va x.vc x.oa x.no x.oc 400
/-- A block of carts is none of a cart's own. -/
theorem gO.other {w w' : World} {lo hi q N : Nat} {va oa : Option Addr} {vc no oc : Nat} {cs : Array Value} {fr : Nat × Nat} (h : gO w lo hi va vc oa no oc N) (hq : w.heap[q]? = some (.cells cs 27 fr)) (hk : ∀ j, lo ≤ j → j < hi → j ≠ q → w'.heap[j]? = w.heap[j]?) : gO w' lo hi va vc oa no oc N := by
 obtain ⟨zs, m, e, a, b, c, d, f⟩ := h
 refine ⟨zs, m, e, ⟨a.1, fun hn => ?_⟩, ⟨b.1, fun hn => ?_⟩, c, d, f⟩
 ·obtain ⟨g, aX, e1, h1, h2, hg, hc⟩ := a.2 hn
  have bH : g ≠ q := by
   intro e2
   rw [e2, hq] at hg; injection hg with hg; injection hg with _ hg; exact absurd hg (by decide)
  exact ⟨g, aX, e1, h1, h2, (hk g h1 h2 bH).trans hg, hc⟩
 ·obtain ⟨g, off, aX, e1, h1, h2, hg, hs, hc⟩ := b.2 hn
  have bH : g ≠ q := by
   intro e2
   rw [e2, hq] at hg; injection hg with hg; injection hg with _ hg; exact absurd hg (by decide)
  exact ⟨g, off, aX, e1, h1, h2, (hk g h1 h2 bH).trans hg, hs, hc⟩

theorem aIm : (Tryz.prog.info? 27).map (fun i => (i.zero, i.size, i.bytes)) = some (some (.agg #[.slice none 0 0, .slice none 0 0]), 2, 48) := by kernel_rfl
/-- A row of carts that a call gathers in memory of its own. -/
structure Q9 (w : World) (base : Nat) (v : Value) (l : List cI) : Prop where
 row : w.ownsRow base 27 2 v l.length (zL l)
 crt : ∀ i, i < l.length → yB w base w.heap.size (aL l i)
theorem Q9.below {w w' : World} {base : Nat} {v : Value} {l : List cI} (h : Q9 w base v l) (hb : Below w.heap.size w w') : Q9 w' base v l :=
 ⟨h.row.kept (row := none) ⟨hb.os, hb.tape, hb.output, hb.size, fun j hj _ => hb.block j hj⟩ (by rcases v.ownBlock with _ | q; exact .inl rfl; exact .inr (fun e => by cases e)), fun i hi => (gO.below (h.crt i hi) hb aRC).more aRC hb.size aRC⟩
theorem Q9.push {z0 : World} {base : Nat} {v : Value} {l : List cI} (h : Q9 z0 base v l) (fY : base ≤ z0.heap.size) (hl : l.length ≤ 100) (x : cI) (hx : yB z0 base z0.heap.size x) :
  ∃ va vc z3, (Builtin.append_ #[111, 111] 111 #[v, .slice (some ⟨z0.heap.size, 0, none⟩) 1 1]).run Tryz.prog (z0.alloc (.cells #[.slice x.va 4 x.vc, .slice x.oa x.no x.oc] 27)) = .ok (.slice va (l.length + 1) vc) z3 ∧ Q9 z3 base (.slice va (l.length + 1) vc) (l ++ [x]) ∧ Below base z0 z3 := by
 obtain ⟨i0, hi, iF, kO, jU⟩ := info_parts aIm
 have aMG := h.row.alloc (.cells #[.slice x.va 4 x.vc, .slice x.oa x.no x.oc] 27)
 obtain ⟨v', z3, hrun, aY, jW, _⟩ := run_append_own (P := Tryz.prog) (z0.alloc (.cells #[.slice x.va 4 x.vc, .slice x.oa x.no x.oc] 27)) base 111 111 27 i0 (.agg #[.slice none 0 0, .slice none 0 0]) 2 48 Tryz.underlying111 hi iF kO jU rfl (by decide) v l.length (zL l) aMG ⟨z0.heap.size, 0, none⟩ 1 1 (V6 x) rfl
  (by
   intro j u hj
   have hn := heap_alloc_new z0 (.cells #[.slice x.va 4 x.vc, .slice x.oa x.no x.oc] 27); obtain ⟨p0, p1⟩ := pair_cells hn
   match j, hj with
   | 0, hj => simp [V6] at hj; subst hj; simp only [Addr.add]; exact p0
   | 1, hj => simp [V6] at hj; subst hj; simp only [Addr.add]; exact p1)
  (by intro u hu; simp [V6] at hu; rcases hu with rfl | rfl <;> rfl) (by unfold maxLen; omega) (by omega) (by show _ ≤ (z0.heap.push _).size; simp; omega)
 obtain ⟨va, vc, rfl⟩ : ∃ va vc, v' = .slice va (l.length + 1) vc := by
  rcases aY.2 with ⟨_, e2⟩ | ⟨_, c2, _, e2, _⟩
  ·omega
  ·exact ⟨_, c2, e2⟩
 have kb : ∀ j, j < z0.heap.size → (z0.alloc (.cells #[.slice x.va 4 x.vc, .slice x.oa x.no x.oc] 27)).heap[j]? = z0.heap[j]? := fun j hj => Below.heap_alloc _ _ _ hj
 have hsa : z0.heap.size < (z0.alloc (.cells #[.slice x.va 4 x.vc, .slice x.oa x.no x.oc] 27)).heap.size := by show _ < (z0.heap.push _).size; simp
 have hrl : ∀ j, v.ownBlock = some j → base ≤ j := fun j hj => (aMG.lt j hj).1
 have k3 : ∀ j, j < z0.heap.size → v.ownBlock ≠ some j → z3.heap[j]? = z0.heap[j]? := fun j hj bH => (jW.block j (by omega) (fun e => bH e.symm)).trans (kb j hj)
 have iG := jW.size
 have aM3 : ∀ y : cI, yB z0 base z0.heap.size y → yB z3 base z3.heap.size y := fun y hy => by
  refine gO.more ?_ (Nat.le_refl base) (by omega : z0.heap.size ≤ z3.heap.size) (Nat.le_refl 400)
  rcases hv : v.ownBlock with _ | q
  ·exact gO.kept hy fun j _ h2 => k3 j h2 (by rw [hv]; intro e; cases e)
  ·rcases h.row.2 with ⟨e2, _⟩ | ⟨q', cap, cu, e2, _, hq, _⟩
   ·rw [e2] at hv; simp [Value.ownBlock] at hv
   ·rw [e2] at hv
    have e3 : q' = q := by simpa [Value.ownBlock] using hv
    subst e3; refine gO.other hy hq fun j _ h2 bH => k3 j h2 ?_
    rw [e2]
    intro e
    simp [Value.ownBlock] at e
    exact bH e.symm
 have b3 : Below base z0 z3 := ((Below.refl base z0).alloc fY _).grown jW (by omega) fun q hq => hrl q hq
 refine ⟨va, vc, z3, hrun, ⟨?_, fun i hi' => ?_⟩, b3⟩
 ·rw [aBI, List.length_append]
  exact aY
 ·by_cases e : i = l.length
  ·subst e
   rw [aMh]; exact aM3 x hx
  ·have tJ : i < l.length := by simp at hi'; omega
   rw [aMg tJ]; exact aM3 _ (h.crt i tJ)
/-- A row of n carts in block q of the call's own. -/
structure aOF (w : World) (base q : Nat) (l : List cI) : Prop where
 lo : base ≤ q
 cells : ∃ cs, w.heap[q]? = some (.cells cs 27 (0, 0)) ∧ ∀ i, i < l.length → cs[i * 2]? = some (.slice (aL l i).va 4 (aL l i).vc) ∧ cs[i * 2 + 1]? = some (.slice (aL l i).oa (aL l i).no (aL l i).oc)
 crt : ∀ i, i < l.length → yB w base w.heap.size (aL l i)
theorem Q9.form {w : World} {base : Nat} {v : Value} {l : List cI} (h : Q9 w base v l) (hn : 0 < l.length) : ∃ q c, v = .slice (some ⟨q, 0, none⟩) l.length c ∧ aOF w base q l := by
 rcases h.row.2 with ⟨_, e2⟩ | ⟨q, cap, cu, e2, jV, hq, _, _, _, hx⟩
 ·omega
 ·have Y8 : ∀ (j : Nat) (u : Value), (zL l)[j]? = some u → cu[j]? = some u := fun j u hu => by
   rw [← hx, List.getElem?_take] at hu
   split at hu
   ·simpa using hu
   ·cases hu
  refine ⟨q, cap, e2, jV, ⟨cu, hq, fun i hi => ?_⟩, h.crt⟩
  obtain ⟨c0, c1⟩ := aEE l i hi; exact ⟨Y8 _ _ c0, Y8 _ _ c1⟩
theorem aAR {w w' : World} {g : Nat} (h : Below w.heap.size w w') : w.grownBy w' (some g) := ⟨h.os, h.tape, h.output, h.size, fun k hk _ => h.block k hk⟩
set_option linter.unusedVariables false

theorem iK {xs : List Int} {l : List aA} (hc : aE xs l = true) (x : ByteArray) : x ∈ bY xs l ↔ aG x l l.length % 2 = 1 := by
 unfold bY
 rw [if_pos hc, mW]
 refine ⟨fun h => h.1, fun h => ⟨h, ?_⟩⟩
 obtain ⟨i, hi, e, _⟩ := F1 x l l.length (by intro e; rw [e] at h; exact absurd h (by decide))
 exact ⟨i, hi, e⟩
/-- Carts that show the same of each item have the same lines. -/
theorem n9 {xs ys : List Int} {l m : List aA} (hc : aE xs l = true) (hd : aE ys m = true) (h1 : ∀ x, aG x m m.length % 2 = 1 ↔ aG x l l.length % 2 = 1) (h2 : ∀ x, aG x l l.length % 2 = 1 → bX m x = bX l x) : aO ys m = aO xs l := by
 have e : bY ys m = bY xs l := asc_one (oM ys m) (oM xs l) fun x => by rw [iK hd, iK hc]; exact h1 x
 unfold aO
 rw [e]
 exact List.map_congr_left fun x hx => h2 x ((iK hc x).1 hx)
def I5 (x : ByteArray) (a : Int) (o : aA) : Int := if o.item = x ∧ o.undos % 2 = 0 then max a o.level else a
theorem aEa (x : ByteArray) (t : Int) : ∀ (l : List aA) (a : Int), l.foldl (I5 x) (max a t) = max (l.foldl (I5 x) a) t
 | [], _ => rfl
 | o :: l, a => by
  rw [List.foldl_cons, List.foldl_cons]; have e : I5 x (max a t) o = max (I5 x a o) t := by unfold I5; split <;> omega
  rw [e]; exact aEa x t l _
theorem zW (l : List aA) (d : Nat) (o : aA) : ∃ A B, l = A ++ B ∧ bO l d o = A ++ (o :: B) := by
 refine ⟨l.take (putAt (d : Int) l), l.drop (putAt (d : Int) l), (List.take_append_drop _ _).symm, ?_⟩
 unfold bO
 rw [List.append_assoc]
 rfl
theorem aMZ {x : ByteArray} {l : List aA} {d : Nat} {o : aA} (h : o.item = x) (hu : o.undos % 2 = 0) : aG x (bO l d o) (bO l d o).length = max (aG x l l.length) o.level := by
 rw [G7, G7]
 obtain ⟨A, B, e1, e2⟩ := zW l d o
 rw [e2]
 subst e1
 show List.foldl (I5 x) 0 (A ++ (o :: B)) = max (List.foldl (I5 x) 0 (A ++ B)) o.level
 rw [List.foldl_append, List.foldl_append, List.foldl_cons, ← aEa]
 congr 1
 unfold I5
 rw [if_pos ⟨h, hu⟩]
theorem aL1 {x : ByteArray} {l : List aA} {d : Nat} {o : aA} (h : ¬ (o.item = x ∧ o.undos % 2 = 0)) : aG x (bO l d o) (bO l d o).length = aG x l l.length := by
 rw [G7, G7]
 obtain ⟨A, B, e1, e2⟩ := zW l d o
 rw [e2]
 subst e1
 show List.foldl (I5 x) 0 (A ++ (o :: B)) = List.foldl (I5 x) 0 (A ++ B)
 rw [List.foldl_append, List.foldl_append, List.foldl_cons]
 congr 1
 unfold I5
 rw [if_neg h]
def qW (P : Int → Bool) (x : ByteArray) (b o : aA) : aA := if (P o.kind = true ∧ o.item = x ∧ o.undos % 2 = 0) ∧ (b.kind = 0 ∨ pB b o = true) then o else b
theorem aBU (P : Int → Bool) (x : ByteArray) : ∀ (l : List aA) (b : aA), l.foldl (qW P x) b = b ∨ l.foldl (qW P x) b ∈ l
 | [], b => .inl rfl
 | o :: l, b => by
  rw [List.foldl_cons]; rcases aBU P x l (qW P x b o) with h | h
  ·rw [h]
   unfold qW
   split
   ·exact .inr (List.mem_cons_self ..)
   ·exact .inl rfl
  ·exact .inr (List.mem_cons_of_mem _ h)
theorem aBT {P : Int → Bool} {x : ByteArray} {o : aA} (hk : o.kind ≠ 0) : ∀ l : List aA, (∀ y, y ∈ l → pB o y = false) → l.foldl (qW P x) o = o
 | [], _ => rfl
 | y :: l, h => by
  rw [List.foldl_cons]; have e : qW P x o y = o := by
   unfold qW; rw [if_neg]; rintro ⟨_, h1 | h1⟩
   ·exact hk h1
   ·rw [h y (List.mem_cons_self ..)] at h1
    cases h1
  rw [e]; exact aBT hk l fun z hz => h z (List.mem_cons_of_mem _ hz)
theorem aMi {P : Int → Bool} {x : ByteArray} {l : List aA} {d : Nat} {o : aA} (hP : P o.kind = true) (hi : o.item = x) (hu : o.undos % 2 = 0) (hk : o.kind ≠ 0) (h : ∀ y, y ∈ l → pB y o = true ∧ pB o y = false) : aU P x (bO l d o) (bO l d o).length = o := by
 rw [L0]
 obtain ⟨A, B, e1, e2⟩ := zW l d o
 rw [e2]
 subst e1
 show List.foldl (qW P x) aA.zero (A ++ (o :: B)) = o
 rw [List.foldl_append, List.foldl_cons]
 have e : qW P x (List.foldl (qW P x) aA.zero A) o = o := by
  have hb := aBU P x A aA.zero; generalize List.foldl (qW P x) aA.zero A = b at hb; unfold qW; rw [if_pos]; refine ⟨⟨hP, hi, hu⟩, ?_⟩
  rcases hb with rfl | hb
  ·exact .inl rfl
  ·exact .inr (h b (List.mem_append_left _ hb)).1
 rw [e]
 exact aBT hk B fun y hy => (h y (List.mem_append_right _ hy)).2
theorem aBg {P : Int → Bool} {x : ByteArray} {l : List aA} {d : Nat} {o : aA} (h : ¬ (P o.kind = true ∧ o.item = x ∧ o.undos % 2 = 0)) : aU P x (bO l d o) (bO l d o).length = aU P x l l.length := by
 rw [L0, L0]
 obtain ⟨A, B, e1, e2⟩ := zW l d o
 rw [e2]
 subst e1
 show List.foldl (qW P x) aA.zero (A ++ (o :: B)) = List.foldl (qW P x) aA.zero (A ++ B)
 rw [List.foldl_append, List.foldl_append, List.foldl_cons]
 congr 1
 unfold qW
 rw [if_neg fun q => h q.1]
/-- The newest operation comes behind all others. -/
theorem aC0 {xs : List Int} {l : List aA} {d : Nat} {o : aA} : ∀ y, y ∈ l → pB y (aJ xs l d o) = true ∧ pB (aJ xs l d o) y = false := fun y hy => by
 obtain ⟨i, hi, e⟩ := List.mem_iff_getElem.1 hy
 have e2 : aC l i = y := by unfold aC; rw [List.getD_eq_getElem?_getD, List.getElem?_eq_getElem hi]; exact e
 have := T7 l l.length i hi
 rw [e2] at this
 have hs : (aJ xs l d o).stamp = dM l l.length + 1 := rfl
 unfold pB preB
 rw [hs]
 exact ⟨decide_eq_true (.inl (by omega)), decide_eq_false (by omega)⟩
/-- Two operations that differ at most in how often they are taken back, both live or both not. -/
def Alike (a b : aA) : Prop := a.dev = b.dev ∧ a.seq = b.seq ∧ a.stamp = b.stamp ∧ a.kind = b.kind ∧ a.item = b.item ∧ a.qty = b.qty ∧ a.level = b.level ∧ a.undos % 2 = b.undos % 2
theorem Alike.refl (a : aA) : Alike a a := ⟨rfl, rfl, rfl, rfl, rfl, rfl, rfl, rfl⟩
theorem aC7 {l m : List aA} (h : ∀ i, Alike (l.getD i aA.zero) (m.getD i aA.zero)) (x : ByteArray) : ∀ k, aG x l k = aG x m k
 | 0 => rfl
 | k + 1 => by
  obtain ⟨_, _, _, _, h5, _, h7, h8⟩ := h k; rw [aG, aG, aC7 h x k, h5, h7, h8]
theorem V7 {l m : List aA} (h : ∀ i, Alike (l.getD i aA.zero) (m.getD i aA.zero)) (P : Int → Bool) (x : ByteArray) : ∀ k, Alike (aU P x l k) (aU P x m k)
 | 0 => Alike.refl _
 | k + 1 => by
  have ih := V7 h P x k; have hk := h k; rw [aU, aU]; generalize aU P x l k = a at ih; generalize aU P x m k = b at ih; generalize l.getD k aA.zero = p at hk; generalize m.getD k aA.zero = q at hk; obtain ⟨a1, a2, a3, a4, a5, a6, a7, a8⟩ := id ih; obtain ⟨b1, b2, b3, b4, b5, b6, b7, b8⟩ := id hk; have e : pB a p = pB b q := by unfold pB; rw [a1, a2, a3, b1, b2, b3]
  rw [e, a4, b4, b5, b8]
  split
  ·exact hk
  ·exact ih
theorem aGn {l m : List aA} (hl : l.length = m.length) (h : ∀ i, Alike (l.getD i aA.zero) (m.getD i aA.zero)) (x : ByteArray) : bX l x = bX m x := by
 unfold bX
 rw [hl, (V7 h qV x m.length).2.2.2.2.2.1, (V7 h iC x m.length).2.2.2.1]
theorem aFk {xs ys : List Int} {l m : List aA} (hc : aE xs l = true) (hd : aE ys m = true) (hl : l.length = m.length) (h : ∀ i, Alike (l.getD i aA.zero) (m.getD i aA.zero)) : aO ys m = aO xs l :=
 n9 hc hd (fun x => by rw [aC7 h x, hl]) fun x _ => (aGn hl h x).symm
/-- Undone twice more, an operation shows as it did. -/
theorem aHu {l : List aA} {i : Nat} (hi : i < l.length) (j : Nat) : Alike (l.getD j aA.zero) ((fB (fB l i) i).getD j aA.zero) := by
 have h1 : ∀ k, (fB l i).getD k aA.zero = if i = k then lY (aC l i) else l.getD k aA.zero := fun k => by unfold fB; exact jM hi
 have hi2 : i < (fB l i).length := by rw [nH]; exact hi
 have h2 : (fB (fB l i) i).getD j aA.zero = if i = j then lY (aC (fB l i) i) else (fB l i).getD j aA.zero := by
  show ((fB l i).set i (lY (aC (fB l i) i))).getD j aA.zero = _
  exact jM hi2
 rw [h2]
 split
 ·rename_i e
  subst e; have h3 : aC (fB l i) i = lY (aC l i) := (h1 i).trans (if_pos rfl); rw [h3]; refine ⟨rfl, rfl, rfl, rfl, rfl, rfl, rfl, ?_⟩
  show (aC l i).undos % 2 = ((aC l i).undos + 1 + 1) % 2
  omega
 ·rename_i e
  rw [h1, if_neg e]; exact Alike.refl _
theorem aFD {l : List aA} {d : Nat} {o : aA} : fB (bO l d o) (putAt (d : Int) l) = bO l d (lY o) := by
 have e : aC (bO l d o) (putAt (d : Int) l) = o := put_eq l d o
 have N5 := qP (d : Int) l
 unfold fB
 rw [e]
 unfold bO
 rw [List.append_assoc, List.append_assoc, List.set_append_right _ _ (by rw [List.length_take]; omega), List.length_take, Nat.min_eq_left N5, Nat.sub_self]
 rfl
theorem aFE {l : List aA} {d : Nat} {o : aA} : putAt (d : Int) l < (bO l d o).length := by
 have := qP (d : Int) l
 rw [uT]
 omega
/-- A command on an item that is taken. -/
structure Q6 (xs : List Int) (l : List aA) (d : Nat) (kind : Int) (item : ByteArray) (qty : Int) (r : Int × List Int × List aA) : Prop where
 ok : (aJ xs l d (oneOf (aG item l l.length) (bG l item) kind item qty).1).ok = true
 code : (oneOf (aG item l l.length) (bG l item) kind item qty).2 = 0
 eq : r = (0, dU xs d, bO l d (aJ xs l d (oneOf (aG item l l.length) (bG l item) kind item qty).1))
theorem aDZ {xs : List Int} {l : List aA} {d : Nat} {kind : Int} {item : ByteArray} {qty : Int} (h : (eA xs l d kind item qty).1 = 0) : Q6 xs l d kind item qty (eA xs l d kind item qty) := by
 unfold eA at h ⊢
 dsimp only at h ⊢
 split at h
 ·rename_i h1
  rw [if_pos h1]
  split at h
  ·rename_i h2
   rw [if_pos h2]; exact ⟨h2, h1, rfl⟩
  ·cases h
 ·rename_i h1
  exact absurd h h1
/-- What a cart shows of an item: is it there, how many, is it saved. -/
def aQF (l : List aA) (x : ByteArray) (t : Bool) (q : Int) (s : Bool) : Prop := (aG x l l.length % 2 = 1 ↔ t = true) ∧ (t = true → (bX l x).qty = q ∧ (bX l x).saved = s)
theorem aF9 {xs : List Int} {l : List aA} {d : Nat} {o : aA} {x : ByteArray} (h : o.item ≠ x) : aG x (bO l d (aJ xs l d o)) (bO l d (aJ xs l d o)).length = aG x l l.length ∧ bX (bO l d (aJ xs l d o)) x = bX l x := by
 have hi : (aJ xs l d o).item ≠ x := h
 refine ⟨aFM hi, ?_⟩
 unfold bX
 rw [aEK hi, aEK hi]
theorem aA1 {C9 : Int} {sv : Bool} {kind : Int} {item : ByteArray} {qty : Int} (h : (oneOf C9 sv kind item qty).2 = 0) : (oneOf C9 sv kind item qty).1.item = item ∧ (oneOf C9 sv kind item qty).1.undos = 0 ∧ (oneOf C9 sv kind item qty).1.kind = kind ∧ 1 ≤ kind ∧ kind ≤ 5 := by
 unfold oneOf at h ⊢
 repeat' split at h
 all_goals first | (exact absurd h (by decide)) | (simp_all)
/-- What other items show stays. -/
theorem Q6.others {xs : List Int} {l : List aA} {d : Nat} {kind : Int} {item : ByteArray} {qty : Int} {r : Int × List Int × List aA} (h : Q6 xs l d kind item qty r) {x : ByteArray} (hx : item ≠ x) : aG x r.2.2 r.2.2.length = aG x l l.length ∧ bX r.2.2 x = bX l x := by
 rw [h.eq]
 exact aF9 (by rw [(aA1 h.code).1]; exact hx)
/-- What the item of the command shows behind it. -/
theorem Q6.item {xs : List Int} {l : List aA} {d : Nat} {kind : Int} {item : ByteArray} {qty : Int} {r : Int × List Int × List aA} (h : Q6 xs l d kind item qty r) :
  (kind = 1 → ¬ aG item l l.length % 2 = 1 ∧ aG item r.2.2 r.2.2.length % 2 = 1 ∧ bX r.2.2 item = ⟨item, qty, false⟩) ∧
  (kind = 2 → aG item l l.length % 2 = 1 ∧ aG item r.2.2 r.2.2.length % 2 = 1 ∧ bX r.2.2 item = ⟨item, qty, (bX l item).saved⟩) ∧
  (kind = 3 → aG item l l.length % 2 = 1 ∧ ¬ aG item r.2.2 r.2.2.length % 2 = 1) ∧
  (kind = 4 → aG item l l.length % 2 = 1 ∧ aG item r.2.2 r.2.2.length % 2 = 1 ∧ (bX l item).saved = false ∧ bX r.2.2 item = ⟨item, (bX l item).qty, true⟩) ∧
  (kind = 5 → aG item l l.length % 2 = 1 ∧ aG item r.2.2 r.2.2.length % 2 = 1 ∧ (bX l item).saved = true ∧ bX r.2.2 item = ⟨item, (bX l item).qty, false⟩) := by
 obtain ⟨hok, cV, he⟩ := h
 obtain ⟨hi, hu, hk, _, _⟩ := aA1 cV
 have aAA := aC0 (xs := xs) (l := l) (d := d) (o := (oneOf (aG item l l.length) (bG l item) kind item qty).1)
 have aRb := sI item l l.length
 have hsv : (bX l item).saved = bG l item := rfl
 have hr : r.2.2 = bO l d (aJ xs l d (oneOf (aG item l l.length) (bG l item) kind item qty).1) := by rw [he]
 rw [hr, hsv]
 clear he hr hsv
 have L1 := aMZ (x := item) (l := l) (d := d) (o := aJ xs l d (oneOf (aG item l l.length) (bG l item) kind item qty).1) hi (by show (oneOf _ _ _ _ _).1.undos % 2 = 0; rw [hu]; rfl)
 have B1 := fun (P : Int → Bool) (hP : P kind = true) => aMi (P := P) (x := item) (l := l) (d := d) (o := aJ xs l d (oneOf (aG item l l.length) (bG l item) kind item qty).1) (by show P (oneOf _ _ _ _ _).1.kind = true; rw [hk]; exact hP) hi (by show (oneOf _ _ _ _ _).1.undos % 2 = 0; rw [hu]; rfl) (by show (oneOf _ _ _ _ _).1.kind ≠ 0; rw [hk]; omega) aAA
 have B0 := fun (P : Int → Bool) (hP : P kind = false) => aBg (P := P) (x := item) (l := l) (d := d) (o := aJ xs l d (oneOf (aG item l l.length) (bG l item) kind item qty).1) (by intro q; have q1 : P (oneOf _ _ _ _ _).1.kind = true := q.1; rw [hk, hP] at q1; cases q1)
 rw [L1]
 have lv : (aJ xs l d (oneOf (aG item l l.length) (bG l item) kind item qty).1).level = (oneOf (aG item l l.length) (bG l item) kind item qty).1.level := rfl
 have hq : (aJ xs l d (oneOf (aG item l l.length) (bG l item) kind item qty).1).qty = (oneOf (aG item l l.length) (bG l item) kind item qty).1.qty := rfl
 have u6 : (aJ xs l d (oneOf (aG item l l.length) (bG l item) kind item qty).1).kind = kind := hk
 rw [lv]
 unfold bX
 generalize aJ xs l d (oneOf (aG item l l.length) (bG l item) kind item qty).1 = o at B1 B0 hq u6
 refine ⟨?_, ?_, ?_, ?_, ?_⟩
 all_goals
  rintro rfl
 ·rw [B1 qV rfl, B1 iC rfl, hq, u6]
  unfold oneOf at cV ⊢; rw [if_pos rfl] at cV ⊢
  split at cV
  ·exact absurd cV (by decide)
  ·rename_i h1
   rw [if_neg h1]; refine ⟨h1, ?_, rfl⟩
   show max (aG item l l.length) (aG item l l.length + 1) % 2 = 1
   omega
 ·rw [B1 qV rfl, B0 iC rfl, hq]
  unfold oneOf at cV ⊢; rw [if_neg (by decide)] at cV ⊢
  split at cV
  ·rename_i h1
   rw [if_pos h1, if_pos rfl]; refine ⟨h1, ?_, rfl⟩
   show max (aG item l l.length) 0 % 2 = 1
   omega
  ·exact absurd cV (by decide)
 ·unfold oneOf at cV ⊢
  rw [if_neg (by decide)] at cV ⊢
  split at cV
  ·rename_i h1
   rw [if_pos h1, if_neg (by decide), if_pos rfl]
   refine ⟨h1, ?_⟩
   show ¬ max (aG item l l.length) (aG item l l.length + 1) % 2 = 1
   omega
  ·exact absurd cV (by decide)
 ·rw [B0 qV rfl, B1 iC rfl, u6]
  unfold oneOf at cV ⊢; rw [if_neg (by decide)] at cV ⊢
  split at cV
  ·rename_i h1
   rw [if_pos h1, if_neg (by decide), if_neg (by decide), if_pos rfl]
   rw [if_neg (by decide), if_neg (by decide), if_pos rfl] at cV
   split at cV
   ·exact absurd cV (by decide)
   ·rename_i h2
    rw [if_neg h2]; refine ⟨h1, ?_, ?_, rfl⟩
    ·show max (aG item l l.length) 0 % 2 = 1
     omega
    ·cases hs : bG l item
     ·rfl
     ·exact absurd hs h2
  ·exact absurd cV (by decide)
 ·rw [B0 qV rfl, B1 iC rfl, u6]
  unfold oneOf at cV ⊢; rw [if_neg (by decide)] at cV ⊢
  split at cV
  ·rename_i h1
   rw [if_pos h1, if_neg (by decide), if_neg (by decide), if_neg (by decide), if_pos rfl]
   rw [if_neg (by decide), if_neg (by decide), if_neg (by decide), if_pos rfl] at cV
   split at cV
   ·rename_i h2
    rw [if_pos h2]; refine ⟨h1, ?_, h2, rfl⟩
    show max (aG item l l.length) 0 % 2 = 1
    omega
   ·exact absurd cV (by decide)
  ·exact absurd cV (by decide)
set_option linter.unusedVariables false

theorem aAc {kind : Int} {item : ByteArray} {qty dv sq : Int} (h : eN kind item qty dv sq = true) : 1 ≤ kind ∧ kind ≤ 9 := by
 unfold eN at h
 repeat' split at h
 all_goals first | omega | cases h
theorem aMd {kind : Int} {item : ByteArray} {qty dv sq : Int} (h : eN kind item qty dv sq = true) (hk : kind ≤ 5) : iE item = true := by
 have := aAc h
 unfold eN at h
 split at h
 ·rw [Bool.and_eq_true] at h; exact h.1
 ·split at h
  ·rw [Bool.and_eq_true] at h; exact h.1
  ·rename_i h1 h2
   omega
/-- A command on an item that is taken. -/
theorem kZ {xs : List Int} {l : List aA} {dev kind : Int} {item : ByteArray} {qty dv sq : Int} (h0 : (bN xs l dev kind item qty dv sq).1 = 0) (hk : kind ≤ 5) : aE xs l = true ∧ (0 ≤ dev ∧ dev ≤ 3) ∧ 1 ≤ kind ∧ iE item = true ∧ Q6 xs l dev.toNat kind item qty (bN xs l dev kind item qty dv sq) := by
 unfold bN at h0 ⊢
 split at h0
 ·rename_i hok
  rw [if_pos hok]
  split at h0
  ·rename_i h1
   rw [if_pos h1]; have h2 : jN xs l dev.toNat kind item qty dv sq = eA xs l dev.toNat kind item qty := by
    unfold jN; rw [if_neg (by omega), if_neg (by omega), if_neg (by omega), if_neg (by omega)]
   rw [h2] at h1 ⊢; exact ⟨hok.1, gM.1 hok.2.1, (aAc hok.2.2).1, aMd hok.2.2 hk, aDZ h1⟩
  ·rename_i h1
   exact absurd h0 h1
 ·cases h0
theorem Q6.cart {xs : List Int} {l : List aA} {d : Nat} {kind : Int} {item : ByteArray} {qty : Int} {r : Int × List Int × List aA} (h : Q6 xs l d kind item qty r) (hc : aE xs l = true) (hd : d < 4) : aE r.2.1 r.2.2 = true := by
 rw [h.eq]
 exact K8 hc hd h.ok
/-- The lines of other items stay. -/
theorem Q6.lines {xs : List Int} {l : List aA} {d : Nat} {kind : Int} {item : ByteArray} {qty : Int} {r : Int × List Int × List aA} (h : Q6 xs l d kind item qty r) (hc : aE xs l = true) (hd : d < 4) :
  (aO r.2.1 r.2.2).filter (fun n => decide (n.item ≠ item)) = (aO xs l).filter (fun n => decide (n.item ≠ item)) := by
 have hr := h.cart hc hd
 have e : ∀ (ys : List Int) (m : List aA), (aO ys m).filter (fun n => decide (n.item ≠ item)) = ((bY ys m).filter (fun x => decide (x ≠ item))).map (bX m) := fun ys m => by
  unfold aO; rw [List.filter_map]
  rfl
 rw [e, e]
 have e2 : (bY r.2.1 r.2.2).filter (fun x => decide (x ≠ item)) = (bY xs l).filter (fun x => decide (x ≠ item)) := by
  refine asc_one ((oM _ _).filter _) ((oM _ _).filter _) fun x => ?_
  rw [List.mem_filter, List.mem_filter, iK hr, iK hc]
  by_cases hx : item = x
  ·subst hx
   simp
  ·rw [(h.others hx).1]
 rw [e2]
 refine List.map_congr_left fun x hx => ?_
 rw [List.mem_filter] at hx
 exact (h.others (fun e => (of_decide_eq_true hx.2) e.symm)).2
theorem aKc {xs : List Int} {l : List aA} (hc : aE xs l = true) {i : Nat} (hi : i < l.length) {d : Nat} (hd : (aC l i).dev = (d : Int)) : (aC l i).seq ≤ xs.getD d 0 := by
 obtain ⟨e, he, h1, h2, _, h3, h4⟩ := vS hc hi
 have : e = d := by omega
 subst this
 have h5 : aR xs (e + 1) = aR xs e + (xs.getD e 0).toNat := rfl
 omega
/-- The newest operation of a device is its last live one. -/
theorem aFb {xs : List Int} {l : List aA} (hc : aE xs l = true) {d : Nat} (hd : d < 4) {o : aA} (hok : (aJ xs l d o).ok = true) (hu : o.undos = 0) : cY (d : Int) (bO l d (aJ xs l d o)) (bO l d (aJ xs l d o)).length = xs.getD d 0 + 1 := by
 have cM := K8 hc hd hok
 have ha := put_eq l d (aJ xs l d o)
 have hp := aFE (l := l) (d := d) (o := aJ xs l d o)
 have hv := R5 (xs := xs) (d := d) (e := d) (fJ hc).1 hd
 rw [if_pos rfl] at hv
 have h1 := (aCP cM (d : Int) _ aRC).1 _ hp (by rw [ha]; rfl) (by rw [ha]; show o.undos % 2 = 0; rw [hu]; rfl)
 rw [ha] at h1
 have h1 : xs.getD d 0 + 1 ≤ cY (d : Int) (bO l d (aJ xs l d o)) (bO l d (aJ xs l d o)).length := h1
 rcases zT (d : Int) (bO l d (aJ xs l d o)) (bO l d (aJ xs l d o)).length with h2 | ⟨j, hj, h3, h4⟩
 ·have := ((fJ hc).2 d hd).1
  omega
 ·have := aKc cM hj h3
  omega
theorem aDa {xs : List Int} {l : List aA} {d : Nat} (hc : aE xs l = true) (hd : d < 4) {kind s : Int} (hs : (kind = 7 ∧ s = cY (d : Int) l l.length) ∨ (kind = 8 ∧ s = rJ xs d l)) : bN xs l (d : Int) kind ⟨#[]⟩ 0 0 0 = if (jK xs l (d : Int) s).1 = 0 then jK xs l (d : Int) s else ((jK xs l (d : Int) s).1, xs, l) := by
 have hk : kind = 7 ∨ kind = 8 := by omega
 unfold bN
 rw [if_pos ⟨hc, tC (by omega) (by omega), by rcases hk with rfl | rfl <;> rfl⟩]
 have e : jN xs l (d : Int).toNat kind ⟨#[]⟩ 0 0 0 = jK xs l (d : Int) s := by
  unfold jN; rcases hs with ⟨rfl, rfl⟩ | ⟨rfl, rfl⟩
  ·rw [if_neg (by decide), if_pos rfl]
   rfl
  ·rw [if_neg (by decide), if_neg (by decide), if_pos rfl]
   rfl
 rw [e]
theorem aHv {xs : List Int} {l : List aA} (hc : aE xs l = true) {i : Nat} (hi : i < l.length) {dev s : Int} (h1 : (aC l i).dev = dev) (h2 : (aC l i).seq = s) (hu : (aC l i).undos ≠ 50) : jK xs l dev s = (0, xs, fB l i) := by
 unfold jK
 rw [aAw hc hi h1 h2, if_pos hi, if_neg hu]
/-- Undo behind a command on an item, and redo behind that. -/
theorem aME {xs : List Int} {l : List aA} {dev kind : Int} {item : ByteArray} {qty dv sq : Int} (h0 : (bN xs l dev kind item qty dv sq).1 = 0) (hk : kind ≤ 5) {n u r : Int × List Int × List aA}
  (hn : bN xs l dev kind item qty dv sq = n) (hu : bN n.2.1 n.2.2 dev 7 ⟨#[]⟩ 0 0 0 = u) (hr : bN u.2.1 u.2.2 dev 8 ⟨#[]⟩ 0 0 0 = r) :
  (0 ≤ dev ∧ dev ≤ 3) ∧ aE n.2.1 n.2.2 = true ∧ u.1 = 0 ∧ aE u.2.1 u.2.2 = true ∧ aO u.2.1 u.2.2 = aO xs l ∧ (rS u.2.1 u.2.2 dev = n.2.1.getD dev.toNat 0 → r.1 = 0 ∧ aO r.2.1 r.2.2 = aO n.2.1 n.2.2) := by
 obtain ⟨hc, jP, _, _, ht⟩ := kZ h0 hk
 rw [hn] at ht
 obtain ⟨d, rfl⟩ : ∃ d : Nat, dev = (d : Int) := ⟨dev.toNat, by omega⟩
 have hd : d < 4 := by omega
 have cM : aE n.2.1 n.2.2 = true := ht.cart hc hd
 obtain ⟨hok, cV, he⟩ := ht
 have hi := aA1 cV
 generalize hO : (oneOf (aG item l l.length) (bG l item) kind item qty).1 = o at hok he hi
 change (aJ xs l d o).ok = true at hok
 change n = (0, dU xs d, bO l d (aJ xs l d o)) at he
 have hun := aFb hc hd hok hi.2.1
 have ha := put_eq l d (aJ xs l d o)
 have hp := aFE (l := l) (d := d) (o := aJ xs l d o)
 have hv := R5 (xs := xs) (d := d) (e := d) (fJ hc).1 hd
 rw [if_pos rfl] at hv
 rw [he] at hu cM ⊢
 change bN (dU xs d) (bO l d (aJ xs l d o)) (d : Int) 7 ⟨#[]⟩ 0 0 0 = u at hu
 change aE (dU xs d) (bO l d (aJ xs l d o)) = true at cM
 have hz : (aJ xs l d o).undos = 0 := hi.2.1
 rw [aDa cM hd (.inl ⟨rfl, hun.symm⟩), aHv cM hp (by rw [ha]; rfl) (by rw [ha]; rfl) (by rw [ha, hz]; decide), if_pos rfl] at hu
 have v8 := aBe cM hp (by rw [ha, hz]; decide)
 have htt := fun j => aHu hp j
 have Y8 : aC (fB (bO l d (aJ xs l d o)) (putAt (d : Int) l)) (putAt (d : Int) l) = lY (aJ xs l d o) := by rw [aFD]; exact put_eq l d _
 have hp2 : putAt (d : Int) l < (fB (bO l d (aJ xs l d o)) (putAt (d : Int) l)).length := by rw [nH]; exact hp
 have hzo : (lY (aJ xs l d o)).undos = 1 := by show (aJ xs l d o).undos + 1 = 1; rw [hz]; rfl
 subst hu
 refine ⟨jP, cM, rfl, v8, ?_, ?_⟩
 ·show aO (dU xs d) (fB (bO l d (aJ xs l d o)) (putAt (d : Int) l)) = aO xs l
  have aNl := v8; rw [aFD] at aNl ⊢; have bH : ¬ (lY (aJ xs l d o)).undos % 2 = 0 := by rw [hzo]; decide
  refine n9 hc aNl (fun x => by rw [aL1 fun q => bH q.2]) fun x _ => ?_
  unfold bX; rw [aBg fun q => bH q.2.2, aBg fun q => bH q.2.2]
 ·intro hrd
  change rS (dU xs d) (fB (bO l d (aJ xs l d o)) (putAt (d : Int) l)) (d : Int) = (dU xs d).getD d 0 at hrd
  unfold rS at hrd; rw [if_pos ⟨v8, tC jP.1 jP.2⟩] at hrd
  change rJ (dU xs d) d _ = _ at hrd
  change bN (dU xs d) (fB (bO l d (aJ xs l d o)) (putAt (d : Int) l)) (d : Int) 8 ⟨#[]⟩ 0 0 0 = r at hr
  rw [aDa v8 hd (.inr ⟨rfl, hrd.symm⟩), aHv v8 hp2 (by rw [Y8]; rfl) (by rw [Y8, hv]; rfl) (by rw [Y8, hzo]; decide), if_pos rfl] at hr
  subst hr; have lI := aBe v8 hp2 (by rw [Y8, hzo]; decide)
  exact ⟨rfl, aFk cM lI (by rw [nH, nH]) htt⟩
/-- What is cleared shows no more; the rest as before. -/
theorem aBM {d : Nat} : ∀ (U : List ByteArray) (zs : List Int) (m : List aA), (nN d U zs m).1 = 0 → ∀ x, (¬ x ∈ U → aG x (nN d U zs m).2.2 (nN d U zs m).2.2.length = aG x m m.length ∧ bX (nN d U zs m).2.2 x = bX m x) ∧ (x ∈ U → ¬ aG x (nN d U zs m).2.2 (nN d U zs m).2.2.length % 2 = 1)
 | [], zs, m, _, x => ⟨fun _ => ⟨rfl, rfl⟩, fun h => by cases h⟩
 | s :: U, zs, m, h0, x => by
  unfold nN at h0 ⊢
  split at h0
  ·rename_i h1
   rw [if_pos h1]; have ht := aDZ h1; have ih := aBM U _ _ h0 x; refine ⟨fun hx => ?_, fun hx => ?_⟩
   ·have h2 := ht.others (x := x) (fun e => hx (by rw [e]; exact List.mem_cons_self ..))
    have h3 := ih.1 fun q => hx (List.mem_cons_of_mem _ q)
    exact ⟨h3.1.trans h2.1, h3.2.trans h2.2⟩
   ·by_cases hU : x ∈ U
    ·exact ih.2 hU
    ·obtain rfl : x = s := by
      rcases List.mem_cons.1 hx with q | q
      ·exact q
      ·exact absurd q hU
     rw [(ih.1 hU).1]; exact (ht.item.2.2.1 rfl).2
  ·rename_i h1
   exact absurd h0 h1
theorem aDi {xs : List Int} {l : List aA} {dev : Int} {n : Int × List Int × List aA} (hn : bN xs l dev 6 ⟨#[]⟩ 0 0 0 = n) (h0 : n.1 = 0) : aE xs l = true ∧ aE n.2.1 n.2.2 = true ∧ aO n.2.1 n.2.2 = (aO xs l).filter (·.saved) ∧ ∃ o, o ∈ aO xs l ∧ o.saved = false := by
 have cM := zJ xs l dev 6 ⟨#[]⟩ 0 0 0
 rw [hn] at cM
 have cM : aE n.2.1 n.2.2 = true := by
  rcases cM with q | q
  ·rw [q] at h0; cases h0
  ·exact q
 subst hn
 unfold bN at h0 cM ⊢
 split at h0
 ·rename_i hok
  rw [if_pos hok] at cM ⊢; have jP := gM.1 hok.2.1
  split at h0
  ·rename_i h1
   rw [if_pos h1] at cM ⊢; have e : jN xs l dev.toNat 6 ⟨#[]⟩ 0 0 0 = sS xs l dev.toNat := by unfold jN; rw [if_pos rfl]
   rw [e, V5 hok.1 (by omega)] at h1 cM ⊢
   split at h1
   ·cases h1
   ·rename_i bH
    rw [if_neg bH] at cM ⊢; have hsh := aBM _ _ _ h1; generalize nN dev.toNat ((bW l l.length).filter fun s => !bG l s) xs l = r at h1 cM hsh ⊢
    have nZ : bY xs l = bW l l.length := by unfold bY; rw [if_pos hok.1]
    rw [← nZ] at bH hsh; have yU : ∀ x, x ∈ (bY xs l).filter (fun s => !bG l s) ↔ aG x l l.length % 2 = 1 ∧ bG l x = false := fun x => by
     rw [List.mem_filter, iK hok.1]; cases bG l x <;> simp
    refine ⟨hok.1, cM, ?_, ?_⟩
    ·have ei : bY r.2.1 r.2.2 = (bY xs l).filter (bG l) := by
      refine asc_one (oM _ _) ((oM _ _).filter _) fun x => ?_
      rw [iK cM, List.mem_filter, iK hok.1]
      constructor
      ·intro hx
       have hn : ¬ x ∈ (bY xs l).filter (fun s => !bG l s) := fun q => (hsh x).2 q hx
       have hl := ((hsh x).1 hn).1; rw [hl] at hx; refine ⟨hx, ?_⟩
       rw [yU] at hn; cases hs : bG l x
       ·exact absurd ⟨hx, hs⟩ hn
       ·rfl
      ·rintro ⟨hx, hs⟩
       have hn : ¬ x ∈ (bY xs l).filter (fun s => !bG l s) := fun q => by
        have := ((yU x).1 q).2; rw [hs] at this; cases this
       rw [((hsh x).1 hn).1]; exact hx
     unfold aO; rw [ei, List.filter_map]; refine List.map_congr_left fun x hx => ?_
     rw [List.mem_filter] at hx; have hn : ¬ x ∈ (bY xs l).filter (fun s => !bG l s) := fun q => by
      have := ((yU x).1 q).2; rw [hx.2] at this; cases this
     exact ((hsh x).1 hn).2
    ·obtain ⟨x, hx⟩ := List.exists_mem_of_ne_nil _ bH
     have h2 := (yU x).1 hx; refine ⟨bX l x, ?_, h2.2⟩
     unfold aO; exact List.mem_map_of_mem ((iK hok.1 x).2 h2.1)
  ·rename_i h1
   exact absurd h0 h1
 ·cases h0
theorem aCR {L : List aT} (h : ∀ o, o ∈ L → o.saved = true) : ∀ k, k ≤ L.length → kU L k = 0
 | 0, _ => rfl
 | k + 1, hk => by
  rw [kU, aCR h k (by omega), if_pos]
  rw [List.getD_eq_getElem?_getD, List.getElem?_eq_getElem (by omega)]
  exact h _ (List.getElem_mem _)
theorem aDK {L : List aT} (h : ∀ o, o ∈ L → 1 ≤ o.qty) : ∀ k, k ≤ L.length → 0 ≤ kU L k ∧ (∀ j, j < k → (L.getD j aT.zero).saved = false → 0 < kU L k)
 | 0, _ => ⟨Int.le_refl _, fun j hj => absurd hj (Nat.not_lt_zero _)⟩
 | k + 1, hk => by
  obtain ⟨h1, h2⟩ := aDK h k (by omega)
  have hq : 1 ≤ (L.getD k aT.zero).qty := by
   rw [List.getD_eq_getElem?_getD, List.getElem?_eq_getElem (by omega)]
   exact h _ (List.getElem_mem _)
  rw [kU]; refine ⟨by split <;> omega, fun j hj hs => ?_⟩
  split
  ·rename_i S1
   refine h2 j ?_ hs
   rcases Nat.lt_or_ge j k with q | q
   ·exact q
   ·obtain rfl : j = k := by omega
    rw [hs] at S1; cases S1
  ·omega
theorem aH9 {xs : List Int} {l : List aA} {o : aT} (h : o ∈ aO xs l) : 1 ≤ o.qty := by
 unfold aO at h
 obtain ⟨x, hx, rfl⟩ := List.mem_map.1 h
 exact (shown hx).2.2.2.2.2.2
/-- Behind clearing there is nothing to pay; ahead of it there was. -/
theorem aII {xs : List Int} {l : List aA} {dev : Int} {n : Int × List Int × List aA} (hn : bN xs l dev 6 ⟨#[]⟩ 0 0 0 = n) (h0 : n.1 = 0) : tW n.2.1 n.2.2 = 0 ∧ 0 < tW xs l := by
 obtain ⟨_, _, hl, o, ho, hs⟩ := aDi hn h0
 unfold tW
 rw [hl]
 refine ⟨aCR (fun o ho => (List.mem_filter.1 ho).2) _ aRC, ?_⟩
 obtain ⟨j, hj, e⟩ := List.mem_iff_getElem.1 ho
 refine (aDK (fun o ho => aH9 ho) _ aRC).2 j hj ?_
 rw [List.getD_eq_getElem?_getD, List.getElem?_eq_getElem hj]
 show (aO xs l)[j].saved = false
 rw [e]
 exact hs
end Go.Proofs.YthkagbnpcjidfaaGreatDoor
