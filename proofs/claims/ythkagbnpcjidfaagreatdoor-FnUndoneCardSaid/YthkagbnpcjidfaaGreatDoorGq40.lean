/- Walks and mathematics that several claims share, part 40. -/
import Derived.Test.YthkagbnpcjidfaaGreatDoorGq26
import Derived.Test.YthkagbnpcjidfaaGreatDoorGq39
import Derived.Deep.Cut
import Derived.Lib.Hide
namespace Go.Proofs.YthkagbnpcjidfaaGreatDoor
set_option maxRecDepth 100000
open Go.RowKit
set_option linter.unusedVariables false
set_option linter.unusedSimpArgs false
set_option maxHeartbeats 40000000 in
theorem aD2 (w : World) (B : Nat) (av ao : Option Addr) (nv cv no co : Nat) (xs : List Int) (l : List aA) (kind qty dv sq : Int) (item : ByteArray) (hx : Ints w B av nv xs) (h : bR w B ao no l) (hB : B ≤ w.heap.size) (dev : Int) (hm : ∀ i, i < no → (aB l i).item.size ≤ 1048576) (hv : nv ≤ 1048576) (hn : no ≤ 1048576) (aBc : aD xs l = false) :
  Calls Tryz.prog 18 #[.agg #[.slice av nv cv, .slice ao no co], .int .i64 dev, .agg #[.int .i64 kind, .string item, .int .i64 qty, .int .i64 dv, .int .i64 sq]] w (wC 1 [] [] w) := by
 have hT := sF.mk0 w #[.slice av nv cv, .slice ao no co] #[.int .i64 kind, .string item, .int .i64 qty, .int .i64 dv, .int .i64 sq] #[.slice none 0 0, .slice none 0 0]
 have HV := aRp (hx.below hT.bel hB)
 have HO := aRp (h.below hT.bel hB)
 have HT := aRp hT
 have HM := aRp hm
 have aKM := aRp aBc
 clear hx h hT hm aBc
 go_enter Tryz.func18, Tryz.ntmps18
 go_upto_region 1 with fail
 generalize ((w.alloc (.cells #[.slice av nv cv, .slice ao no co] 27)).alloc (.cells #[.int .i64 kind, .string item, .int .i64 qty, .int .i64 dv, .int .i64 sq] 29)).alloc (.cells #[.slice none 0 0, .slice none 0 0] 27) = w0 at HV HO HT ⊢
 have lC := HT.out.lt
 obtain ⟨q0, q1⟩ := pair_cells HT.out.fst
 go_wp2_with fail
 refine (tH w0 B av ao nv cv no co xs l HV.out HO.out (by omega) hv hn HM.out).mono ?_
 rw [aKM.out]
 rintro e w1 ⟨rfl, aF⟩
 have aR := aRp (HT.out.next aF)
 have eL := aF.size
 clear aF HT HV HO q0 q1
 obtain ⟨r0, r1⟩ := pair_cells aR.out.res
 obtain ⟨f0, f1⟩ := aC aR.out.res
 obtain ⟨bL, iW⟩ := aR.out.outN (w1 := w1) (va := none) (nv := 0) (vc := 0) (oa := none) (no := 0) (oc := 0) (code := 1) (zs := []) (m := []) (by omega) (rR.nil _ _ _)
 go_wp2
 generalize (w1.setCell ⟨w.heap.size + 1 + 1, 0, none⟩ (.slice none 0 0)).setCell ⟨w.heap.size + 1 + 1, 1, none⟩ (.slice none 0 0) = wf at bL iW ⊢
 obtain ⟨p0, p1⟩ := pair_cells bL.out
 exact bodyPost_ret (v := .tuple #[.agg #[.slice none 0 0, .slice none 0 0], .int .i64 (1)]) (by simp [results, Tryz.results18, go_sem, p0, p1]) rfl iW.out
theorem aBR {xs : List Int} {l : List aA} (h : aD xs l = false) (dev kind : Int) (item : ByteArray) (qty dv sq : Int) : cD xs l dev kind item qty dv sq = (1, [], []) := by
 unfold cD
 rw [if_neg]
 rintro ⟨h1, _⟩
 rw [h] at h1
 cases h1
theorem aBC (w : World) (B : Nat) (av ao : Option Addr) (nv cv no co : Nat) (xs : List Int) (l : List aA) (kind qty dv sq : Int) (item : ByteArray) (hx : Ints w B av nv xs) (h : bR w B ao no l) (hB : B ≤ w.heap.size) (bU : bY av nv cv) (cC : bY ao no co) (hi : item.size ≤ 1048576) (dev : Int) (hm : ∀ i, i < no → (aB l i).item.size ≤ 1048576) (hv : nv ≤ 1048576) (hn : no ≤ 1048576) :
  Calls Tryz.prog 18 #[.agg #[.slice av nv cv, .slice ao no co], .int .i64 dev, .agg #[.int .i64 kind, .string item, .int .i64 qty, .int .i64 dv, .int .i64 sq]] w (wC (cD xs l dev kind item qty dv sq).1 (cD xs l dev kind item qty dv sq).2.1 (cD xs l dev kind item qty dv sq).2.2 w) := by
 cases hc : aD xs l
 ·rw [aBR hc]
  exact aD2 w B av ao nv cv no co xs l kind qty dv sq item hx h hB dev hm hv hn hc
 ·obtain rfl : nv = 4 := by rw [← hx.1]; exact (eP hc).1
  exact aBB w B av ao cv no co xs l kind qty dv sq item hx h hB bU cC hi dev hm hn rfl
theorem zK (w : World) (B : Nat) (E : Int → Addr) (hE : eG w B E) (av ao : Option Addr) (nv cv no co : Nat) (xs : List Int) (l : List aA) (dev kind qty dv sq : Int) (item : ByteArray) (hx : Ints w B av nv xs) (h : bR w B ao no l) (hB : B ≤ w.heap.size) (bU : nv ≤ cv) (cC : bY ao no co) (hv : nv ≤ 1048576) (hn : no ≤ 1048576) (hi : item.size ≤ 1048576) :
  Calls Tryz.prog 17 #[.agg #[.slice av nv cv, .slice ao no co], .int .i64 dev, .agg #[.int .i64 kind, .string item, .int .i64 qty, .int .i64 dv, .int .i64 sq]] w (r9 (cD xs l dev kind item qty dv sq) w) := by
 cases hc : aD xs l
 ·rw [aBR hc]
  exact aED w B E hE av ao nv cv no co xs l dev kind qty dv sq item hx h hB hv cC.1 ⟨hn, cC.2.1⟩ hc
 ·obtain rfl : nv = 4 := by rw [← hx.1]; exact (eP hc).1
  obtain ⟨g, off, e, _⟩ := hx.2 0 (by omega)
  subst e; exact aIz w B E hE g off ao cv no co xs l dev kind qty dv sq item hx h hB bU cC hn hi
theorem aDl {d : Nat} (hd : d < 4) : ∀ (U : List ByteArray) (zs : List Int) (m : List aA), aD zs m = true → (oV d U zs m).1 = 0 → aD (oV d U zs m).2.1 (oV d U zs m).2.2 = true
 | [], zs, m, h, _ => h
 | s :: U, zs, m, h, h0 => by
  unfold oV at h0 ⊢
  split at h0
  ·rename_i h1
   rw [if_pos h1]; exact aDl hd U _ _ (i1 h hd h1) h0
  ·rename_i h1
   exact absurd h0 h1
theorem Z5 {xs : List Int} {l : List aA} (h : aD xs l = true) {dev s : Int} (h0 : (gE xs l dev s).1 = 0) : aD (gE xs l dev s).2.1 (gE xs l dev s).2.2 = true := by
 unfold gE at h0 ⊢
 split at h0
 ·rename_i h1
  rw [if_pos h1]
  split at h0
  ·cases h0
  ·rename_i h2
   rw [if_neg h2]; exact aBg h h1 h2
 ·cases h0
theorem aIU {xs : List Int} {l : List aA} (h : aD xs l = true) {d : Nat} (hd : d < 4) (h0 : (oW xs l d).1 = 0) : aD (oW xs l d).2.1 (oW xs l d).2.2 = true := by
 rw [R1 h hd] at h0 ⊢
 split at h0
 ·cases h0
 ·rename_i h1
  rw [if_neg h1]; exact aDl hd _ _ _ h h0
theorem aJz {xs : List Int} {l : List aA} (h : aD xs l = true) {d : Nat} (hd : d < 4) {kind : Int} {item : ByteArray} {qty dv sq : Int} (h0 : (iM xs l d kind item qty dv sq).1 = 0) : aD (iM xs l d kind item qty dv sq).2.1 (iM xs l d kind item qty dv sq).2.2 = true := by
 unfold iM at h0 ⊢
 split at h0
 ·rename_i h1
  rw [if_pos h1]; exact aIU h hd h0
 ·rename_i h1
  rw [if_neg h1]
  split at h0
  ·rename_i h1
   rw [if_pos h1]; exact Z5 h h0
  ·rename_i h1
   rw [if_neg h1]
   split at h0
   ·rename_i h1
    rw [if_pos h1]; exact Z5 h h0
   ·rename_i h1
    rw [if_neg h1]
    split at h0
    ·rename_i h1
     rw [if_pos h1]; exact Z5 h h0
    ·rename_i h1
     rw [if_neg h1]; exact i1 h hd h0
theorem K5 (xs : List Int) (l : List aA) (dev kind : Int) (item : ByteArray) (qty dv sq : Int) : cD xs l dev kind item qty dv sq = (1, [], []) ∨ aD (cD xs l dev kind item qty dv sq).2.1 (cD xs l dev kind item qty dv sq).2.2 = true := by
 unfold cD
 split
 ·rename_i hok
  right
  have iO := hok.2.1; unfold cS at iO; have hd := of_decide_eq_true iO
  split
  ·rename_i h0
   exact aJz hok.1 (by omega) h0
  ·exact hok.1
 ·exact .inl rfl
theorem eG.kept {w w' : World} {B : Nat} {E : Int → Addr} (h : eG w B E) (hk : ∀ j, j < B → w'.heap[j]? = w.heap[j]?) : eG w' B E := by
 have hl := h.low
 refine ⟨h.low, fun c h1 h2 => ?_, fun c h1 h2 => ?_, h.ne, ?_⟩
 ·have := aIJ c
  exact (World.cell?_of_block (a := ⟨gOf c, 0, none⟩) (hk _ (by show gOf c < B; omega))).trans (h.cells c h1 h2)
 ·obtain ⟨a, ca, ta, hc⟩ := h.lies c h1 h2
  exact ⟨a, ca, ta, (hk _ (by omega)).trans hc⟩
 ·exact (World.cell?_of_block (a := ⟨1, 0, none⟩) (hk _ (by show 1 < B; omega))).trans h.typ
theorem aFZ {zs : List Int} {m : List aA} (h : aD zs m = true) : tC zs m 160 :=
 ⟨(eP h).1, fun d hd => ⟨((eP h).2 d hd).1, by have := ((eP h).2 d hd).2; omega⟩, fun i hi => by have := (dI (fI h hi)).2.2.2.1; omega, fun i hi => (dI (fI h hi)).2.2.2.2.1, eF h⟩
theorem aHR (w : World) (B : Nat) (av ao : Option Addr) (cv no co : Nat) (xs : List Int) (l : List aA) (kind qty dv sq : Int) (item : ByteArray) (hx : Ints w B av 4 xs) (h : bR w B ao no l) (hB : B ≤ w.heap.size) (bU : bY av 4 cv) (cC : bY ao no co) (hi : item.size ≤ 8) (dev : Int) (hm : ∀ i, i < no → (aB l i).item.size ≤ 1048576) (hn : no ≤ 1048576) :
  Calls Tryz.prog 18 #[.agg #[.slice av 4 cv, .slice ao no co], .int .i64 dev, .agg #[.int .i64 kind, .string item, .int .i64 qty, .int .i64 dv, .int .i64 sq]] w (aKx 320 w) := by
 obtain ⟨⟨c, zs, m⟩, hr⟩ : ∃ r, cD xs l dev kind item qty dv sq = r := ⟨_, rfl⟩
 refine (aBB w B av ao cv no co xs l kind qty dv sq item hx h hB bU cC (by omega) dev hm hn hr).mono fun e w' h => h.weak fun h0 => ?_
 have h1 := K5 xs l dev kind item qty dv sq
 rw [hr] at h1
 rcases h1 with h1 | h1
 ·injection h1 with h2 _
  omega
 ·exact (aFZ h1).more (by omega)
theorem aHE (W : World) : (Instr.makeSlice 24 (.int .i64 4) (.int .i64 4)).run Tryz.prog W = .ok (.slice (some ⟨W.heap.size, 0, none⟩) 4 4) (W.alloc (.cells #[.int .i64 0, .int .i64 0, .int .i64 0, .int .i64 0] 2)) := by
 obtain ⟨i0, hi, gR, kH, jN⟩ := info_parts Tryz.infoI64
 have h := run_make (P := Tryz.prog) W 24 2 i0 (.int .i64 0) Tryz.underlying24 hi gR .i64 .i64 4 4 (by omega) (by omega) (by rw [jN]; omega) (by omega)
 rw [kH] at h
 have e : madeCells (Value.int .i64 0).cells (Int.toNat 4 * 1) = #[.int .i64 0, .int .i64 0, .int .i64 0, .int .i64 0] := by kernel_rfl
 rw [e] at h
 exact h
theorem aNa (w : World) : Calls Tryz.prog 130 #[] w fun e w' => ∃ g, e = .returned (.slice (some ⟨g, 0, none⟩) 4 4) ∧ Own w' w.heap.size w'.heap.size (some ⟨g, 0, none⟩) 4 [0, 0, 0, 0] ∧ Below w.heap.size w w' := by
 have hm := aHE
 go_enter Tryz.func130, Tryz.ntmps130
 go_wp2
 go_ret
 exact ⟨_, rfl, aH3 (xs := [0, 0, 0, 0]) (heap_alloc_new _ _) (by show _ < (w.heap.push _).size; simp), bl⟩
theorem aFI (w : World) : Calls Tryz.prog 104 #[] w fun e w' => ∃ g, e = .returned (.agg #[.slice (some ⟨g, 0, none⟩) 4 4, .slice none 0 0]) ∧ fK w' w.heap.size w'.heap.size (some ⟨g, 0, none⟩) 4 none 0 0 400 ∧ Below w.heap.size w w' := by
 go_enter Tryz.func104, Tryz.ntmps104
 go_wp2_with fail
 refine (aNa _).mono ?_
 rintro e w1 ⟨g, rfl, ho, hb⟩
 have hx := bM hb
 have HB := aRp (iU hb)
 obtain ⟨c0, c1⟩ := pair_cells hx
 obtain ⟨f0, f1⟩ := aC hx
 have HX := aRp (cH (.slice (some ⟨g, 0, none⟩) 4 4) (.slice none 0 0) hx)
 have HO : Hid (Own ((w1.setCell ⟨w.heap.size, 0, none⟩ (.slice (some ⟨g, 0, none⟩) 4 4)).setCell ⟨w.heap.size, 1, none⟩ (.slice none 0 0)) w.heap.size w1.heap.size (some ⟨g, 0, none⟩) 4 [0, 0, 0, 0]) := (Own.kept ho fun j h1 h2 => aE _ _ (by have : w.heap.size < (w.alloc (.cells #[.slice none 0 0, .slice none 0 0] 27)).heap.size := by { show _ < (w.heap.push _).size; simp }; omega)).more (by show _ ≤ (w.heap.push _).size; simp) aRr
 have bS := aRp ((HB.out.setCell (p := ⟨w.heap.size, 0, none⟩) aRr (.slice (some ⟨g, 0, none⟩) 4 4)).setCell (p := ⟨w.heap.size, 1, none⟩) aRr (.slice none 0 0))
 have dA := aRp (bB w1 w.heap.size (.slice (some ⟨g, 0, none⟩) 4 4) (.slice none 0 0))
 clear hx hb ho
 go_wp2
 generalize (w1.setCell ⟨w.heap.size, 0, none⟩ (.slice (some ⟨g, 0, none⟩) 4 4)).setCell ⟨w.heap.size, 1, none⟩ (.slice none 0 0) = wf at HX HO bS dA ⊢
 obtain ⟨d0, d1⟩ := pair_cells HX.out
 refine bodyPost_ret (v := .agg #[.slice (some ⟨g, 0, none⟩) 4 4, .slice none 0 0]) (by simp [results, Tryz.results104, go_sem, d0, d1]) rfl ⟨g, rfl, ⟨[0, 0, 0, 0], [], rfl, HO.out.more aRr (Nat.le_of_eq dA.out.symm), fA _ _ _ _, ⟨Nat.le_refl _, by unfold K3 maxLen; omega, fun h => by cases h⟩, cP, ?_⟩, bS.out⟩
 refine ⟨rfl, fun d hd => ?_, fun i hi => absurd hi (by simp), fun i hi => absurd hi (by simp), Nat.zero_le _⟩
 match d, hd with
 | 0, _ => exact ⟨Int.le_refl _, by show (0 : Int) ≤ 1000; omega⟩
 | 1, _ => exact ⟨Int.le_refl _, by show (0 : Int) ≤ 1000; omega⟩
 | 2, _ => exact ⟨Int.le_refl _, by show (0 : Int) ≤ 1000; omega⟩
 | 3, _ => exact ⟨Int.le_refl _, by show (0 : Int) ≤ 1000; omega⟩
structure cF where
 va : Option Addr
 vc : Nat
 oa : Option Addr
 no : Nat
 oc : Nat
def cF.zero : cF := ⟨none, 0, none, 0, 0⟩
def R3 (x : cF) : List Value := [.slice x.va 4 x.vc, .slice x.oa x.no x.oc]
def aJ (l : List cF) (i : Nat) : cF := l.getD i cF.zero
def wP : List cF → List Value
 | [] => []
 | x :: l => R3 x ++ wP l
theorem aBV (x : cF) : ∀ l, wP (l ++ [x]) = wP l ++ R3 x
 | [] => rfl
 | q :: l => by show R3 q ++ wP (l ++ [x]) = (R3 q ++ wP l) ++ R3 x; rw [aBV x l, List.append_assoc]
theorem aEQ : ∀ (l : List cF) (i : Nat), i < l.length → (wP l)[i * 2]? = some (.slice (aJ l i).va 4 (aJ l i).vc) ∧ (wP l)[i * 2 + 1]? = some (.slice (aJ l i).oa (aJ l i).no (aJ l i).oc)
 | x :: l, 0, _ => ⟨rfl, rfl⟩
 | x :: l, i + 1, h => by
  have := aEQ l i (by simpa using h)
  have e : (i + 1) * 2 = i * 2 + 2 := by omega
  rw [e]; exact this
theorem aMp {l : List cF} {x : cF} {i : Nat} (h : i < l.length) : aJ (l ++ [x]) i = aJ l i := by
 unfold aJ; rw [List.getD_eq_getElem?_getD, List.getD_eq_getElem?_getD, List.getElem?_append_left h]
theorem aMq (l : List cF) (x : cF) : aJ (l ++ [x]) l.length = x := by
 unfold aJ; simp
theorem aGr {l : List cF} {x : cF} {i k : Nat} (hk : k < l.length) : aJ (l.set k x) i = if k = i then x else aJ l i := by
 unfold aJ; exact gF hk
def vA (w : World) (lo hi : Nat) (x : cF) : Prop := fK w lo hi x.va x.vc x.oa x.no x.oc 400
theorem fK.other {w w' : World} {lo hi q N : Nat} {va oa : Option Addr} {vc no oc : Nat} {cs : Array Value} {fr : Nat × Nat} (h : fK w lo hi va vc oa no oc N) (hq : w.heap[q]? = some (.cells cs 27 fr)) (hk : ∀ j, lo ≤ j → j < hi → j ≠ q → w'.heap[j]? = w.heap[j]?) : fK w' lo hi va vc oa no oc N := by
 obtain ⟨zs, m, e, a, b, c, d, f⟩ := h
 refine ⟨zs, m, e, ⟨a.1, fun hn => ?_⟩, ⟨b.1, fun hn => ?_⟩, c, d, f⟩
 ·obtain ⟨g, aY, e1, h1, h2, hg, hc⟩ := a.2 hn
  have bI : g ≠ q := by
   intro e2
   rw [e2, hq] at hg; injection hg with hg; injection hg with _ hg; exact absurd hg (by decide)
  exact ⟨g, aY, e1, h1, h2, (hk g h1 h2 bI).trans hg, hc⟩
 ·obtain ⟨g, off, aY, e1, h1, h2, hg, hs, hc⟩ := b.2 hn
  have bI : g ≠ q := by
   intro e2
   rw [e2, hq] at hg; injection hg with hg; injection hg with _ hg; exact absurd hg (by decide)
  exact ⟨g, off, aY, e1, h1, h2, (hk g h1 h2 bI).trans hg, hs, hc⟩
theorem aIw : (Tryz.prog.info? 27).map (fun i => (i.zero, i.size, i.bytes)) = some (some (.agg #[.slice none 0 0, .slice none 0 0]), 2, 48) := by kernel_rfl
structure L7 (w : World) (base : Nat) (v : Value) (l : List cF) : Prop where
 row : w.ownsRow base 27 2 v l.length (wP l)
 crt : ∀ i, i < l.length → vA w base w.heap.size (aJ l i)
theorem L7.below {w w' : World} {base : Nat} {v : Value} {l : List cF} (h : L7 w base v l) (hb : Below w.heap.size w w') : L7 w' base v l :=
 ⟨h.row.kept (row := none) ⟨hb.os, hb.tape, hb.output, hb.size, fun j hj _ => hb.block j hj⟩ (by rcases v.ownBlock with _ | q; exact .inl rfl; exact .inr (fun e => by cases e)), fun i hi => (fK.below (h.crt i hi) hb aRr).more aRr hb.size aRr⟩
theorem L7.push {z0 : World} {base : Nat} {v : Value} {l : List cF} (h : L7 z0 base v l) (hC : base ≤ z0.heap.size) (hl : l.length ≤ 100) (x : cF) (hx : vA z0 base z0.heap.size x) :
  ∃ va vc z3, (Builtin.append_ #[111, 111] 111 #[v, .slice (some ⟨z0.heap.size, 0, none⟩) 1 1]).run Tryz.prog (z0.alloc (.cells #[.slice x.va 4 x.vc, .slice x.oa x.no x.oc] 27)) = .ok (.slice va (l.length + 1) vc) z3 ∧ L7 z3 base (.slice va (l.length + 1) vc) (l ++ [x]) ∧ Below base z0 z3 := by
 obtain ⟨i0, hi, gR, kH, jN⟩ := info_parts aIw
 have aMR := h.row.alloc (.cells #[.slice x.va 4 x.vc, .slice x.oa x.no x.oc] 27)
 obtain ⟨v', z3, hrun, aZ, eZ, _⟩ := run_append_own (P := Tryz.prog) (z0.alloc (.cells #[.slice x.va 4 x.vc, .slice x.oa x.no x.oc] 27)) base 111 111 27 i0 (.agg #[.slice none 0 0, .slice none 0 0]) 2 48 Tryz.underlying111 hi gR kH jN rfl (by decide) v l.length (wP l) aMR ⟨z0.heap.size, 0, none⟩ 1 1 (R3 x) rfl
  (by
   intro j u hj
   have hn := heap_alloc_new z0 (.cells #[.slice x.va 4 x.vc, .slice x.oa x.no x.oc] 27); obtain ⟨p0, p1⟩ := pair_cells hn
   match j, hj with
   | 0, hj => simp [R3] at hj; subst hj; simp only [Addr.add]; exact p0
   | 1, hj => simp [R3] at hj; subst hj; simp only [Addr.add]; exact p1)
  (by intro u hu; simp [R3] at hu; rcases hu with rfl | rfl <;> rfl) (by unfold maxLen; omega) (by omega) (by show _ ≤ (z0.heap.push _).size; simp; omega)
 obtain ⟨va, vc, rfl⟩ : ∃ va vc, v' = .slice va (l.length + 1) vc := by
  rcases aZ.2 with ⟨_, e2⟩ | ⟨_, c2, _, e2, _⟩
  ·omega
  ·exact ⟨_, c2, e2⟩
 have kb : ∀ j, j < z0.heap.size → (z0.alloc (.cells #[.slice x.va 4 x.vc, .slice x.oa x.no x.oc] 27)).heap[j]? = z0.heap[j]? := fun j hj => Below.heap_alloc _ _ _ hj
 have hsa : z0.heap.size < (z0.alloc (.cells #[.slice x.va 4 x.vc, .slice x.oa x.no x.oc] 27)).heap.size := by show _ < (z0.heap.push _).size; simp
 have hrl : ∀ j, v.ownBlock = some j → base ≤ j := fun j hj => (aMR.lt j hj).1
 have k3 : ∀ j, j < z0.heap.size → v.ownBlock ≠ some j → z3.heap[j]? = z0.heap[j]? := fun j hj bI => (eZ.block j (by omega) (fun e => bI e.symm)).trans (kb j hj)
 have iD := eZ.size
 have aNb : ∀ y : cF, vA z0 base z0.heap.size y → vA z3 base z3.heap.size y := fun y hy => by
  refine fK.more ?_ (Nat.le_refl base) (by omega : z0.heap.size ≤ z3.heap.size) (Nat.le_refl 400)
  rcases hv : v.ownBlock with _ | q
  ·exact fK.kept hy fun j _ h2 => k3 j h2 (by rw [hv]; intro e; cases e)
  ·rcases h.row.2 with ⟨e2, _⟩ | ⟨q', cap, cu, e2, _, hq, _⟩
   ·rw [e2] at hv; simp [Value.ownBlock] at hv
   ·rw [e2] at hv
    have e3 : q' = q := by simpa [Value.ownBlock] using hv
    subst e3; refine fK.other hy hq fun j _ h2 bI => k3 j h2 ?_
    rw [e2]
    intro e
    simp [Value.ownBlock] at e
    exact bI e.symm
 have b3 : Below base z0 z3 := ((Below.refl base z0).alloc hC _).grown eZ (by omega) fun q hq => hrl q hq
 refine ⟨va, vc, z3, hrun, ⟨?_, fun i hi' => ?_⟩, b3⟩
 ·rw [aBV, List.length_append]
  exact aZ
 ·by_cases e : i = l.length
  ·subst e
   rw [aMq]; exact aNb x hx
  ·have qV : i < l.length := by simp at hi'; omega
   rw [aMp qV]; exact aNb _ (h.crt i qV)
structure aOP (w : World) (base q : Nat) (l : List cF) : Prop where
 lo : base ≤ q
 cells : ∃ cs, w.heap[q]? = some (.cells cs 27 (0, 0)) ∧ ∀ i, i < l.length → cs[i * 2]? = some (.slice (aJ l i).va 4 (aJ l i).vc) ∧ cs[i * 2 + 1]? = some (.slice (aJ l i).oa (aJ l i).no (aJ l i).oc)
 crt : ∀ i, i < l.length → vA w base w.heap.size (aJ l i)
theorem L7.form {w : World} {base : Nat} {v : Value} {l : List cF} (h : L7 w base v l) (hn : 0 < l.length) : ∃ q c, v = .slice (some ⟨q, 0, none⟩) l.length c ∧ aOP w base q l := by
 rcases h.row.2 with ⟨_, e2⟩ | ⟨q, cap, cu, e2, iS, hq, _, _, _, hx⟩
 ·omega
 ·have X2 : ∀ (j : Nat) (u : Value), (wP l)[j]? = some u → cu[j]? = some u := fun j u hu => by
   rw [← hx, List.getElem?_take] at hu
   split at hu
   ·simpa using hu
   ·cases hu
  refine ⟨q, cap, e2, iS, ⟨cu, hq, fun i hi => ?_⟩, h.crt⟩
  obtain ⟨c0, c1⟩ := aEQ l i hi; exact ⟨X2 _ _ c0, X2 _ _ c1⟩
theorem aAP {w w' : World} {g : Nat} (h : Below w.heap.size w w') : w.grownBy w' (some g) := ⟨h.os, h.tape, h.output, h.size, fun k hk _ => h.block k hk⟩
end Go.Proofs.YthkagbnpcjidfaaGreatDoor
