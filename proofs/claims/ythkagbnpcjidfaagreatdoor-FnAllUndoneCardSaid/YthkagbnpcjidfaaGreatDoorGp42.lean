/- Walks and mathematics that several claims share, part 42. -/
import Derived.Test.YthkagbnpcjidfaaGreatDoorGp29
import Derived.Test.YthkagbnpcjidfaaGreatDoorGp41
import Derived.Deep.Cut
import Derived.Lib.Hide
namespace Go.Proofs.YthkagbnpcjidfaaGreatDoor
set_option maxRecDepth 100000
open Go.RowKit
set_option linter.unusedVariables false
set_option linter.unusedSimpArgs false
set_option maxHeartbeats 40000000 in
theorem aCn (w : World) (B : Nat) (av ao : Option Addr) (nv cv no co : Nat) (xs : List Int) (l : List aA) (kind qty dv sq : Int) (item : ByteArray) (hx : Ints w B av nv xs) (h : bK w B ao no l) (hB : B ≤ w.heap.size) (dev : Int) (hm : ∀ i, i < no → (aB l i).item.size ≤ 1048576) (hv : nv ≤ 1048576) (hn : no ≤ 1048576) (p8 : aD xs l = false) :
  Calls Tryz.prog 18 #[.agg #[.slice av nv cv, .slice ao no co], .int .i64 dev, .agg #[.int .i64 kind, .string item, .int .i64 qty, .int .i64 dv, .int .i64 sq]] w (uT 1 [] [] w) := by
 have hT := rP.mk0 w #[.slice av nv cv, .slice ao no co] #[.int .i64 kind, .string item, .int .i64 qty, .int .i64 dv, .int .i64 sq] #[.slice none 0 0, .slice none 0 0]
 have HV := aPu (hx.below hT.bel hB)
 have HO := aPu (h.below hT.bel hB)
 have HT := aPu hT
 have HM := aPu hm
 have aJg := aPu p8
 clear hx h hT hm p8
 go_enter Tryz.func18, Tryz.ntmps18
 go_upto_region 1 with fail
 generalize ((w.alloc (.cells #[.slice av nv cv, .slice ao no co] 27)).alloc (.cells #[.int .i64 kind, .string item, .int .i64 qty, .int .i64 dv, .int .i64 sq] 29)).alloc (.cells #[.slice none 0 0, .slice none 0 0] 27) = w0 at HV HO HT ⊢
 have lQ := HT.out.lt
 obtain ⟨q0, q1⟩ := pair_cells HT.out.fst
 go_wp2_with fail
 refine (sR w0 B av ao nv cv no co xs l HV.out HO.out (by omega) hv hn HM.out).mono ?_
 rw [aJg.out]
 rintro e w1 ⟨rfl, aE⟩
 have aT := aPu (HT.out.next aE)
 have dZ := aE.size
 clear aE HT HV HO q0 q1
 obtain ⟨r0, r1⟩ := pair_cells aT.out.res
 obtain ⟨f0, f1⟩ := aC aT.out.res
 obtain ⟨bM, iU⟩ := aT.out.outN (w1 := w1) (va := none) (nv := 0) (vc := 0) (oa := none) (no := 0) (oc := 0) (code := 1) (zs := []) (m := []) (by omega) (rE.nil _ _ _)
 go_wp2
 generalize (w1.setCell ⟨w.heap.size + 1 + 1, 0, none⟩ (.slice none 0 0)).setCell ⟨w.heap.size + 1 + 1, 1, none⟩ (.slice none 0 0) = wf at bM iU ⊢
 obtain ⟨p0, p1⟩ := pair_cells bM.out
 exact bodyPost_ret (v := .tuple #[.agg #[.slice none 0 0, .slice none 0 0], .int .i64 (1)]) (by simp [results, Tryz.results18, go_sem, p0, p1]) rfl iU.out
theorem aAs {xs : List Int} {l : List aA} (h : aD xs l = false) (dev kind : Int) (item : ByteArray) (qty dv sq : Int) : cH xs l dev kind item qty dv sq = (1, [], []) := by
 unfold cH
 rw [if_neg]
 rintro ⟨h1, _⟩
 rw [h] at h1
 cases h1
theorem aAf (w : World) (B : Nat) (av ao : Option Addr) (nv cv no co : Nat) (xs : List Int) (l : List aA) (kind qty dv sq : Int) (item : ByteArray) (hx : Ints w B av nv xs) (h : bK w B ao no l) (hB : B ≤ w.heap.size) (bX : bQ av nv cv) (cD : bQ ao no co) (hi : item.size ≤ 1048576) (dev : Int) (hm : ∀ i, i < no → (aB l i).item.size ≤ 1048576) (hv : nv ≤ 1048576) (hn : no ≤ 1048576) :
  Calls Tryz.prog 18 #[.agg #[.slice av nv cv, .slice ao no co], .int .i64 dev, .agg #[.int .i64 kind, .string item, .int .i64 qty, .int .i64 dv, .int .i64 sq]] w (uT (cH xs l dev kind item qty dv sq).1 (cH xs l dev kind item qty dv sq).2.1 (cH xs l dev kind item qty dv sq).2.2 w) := by
 cases hc : aD xs l
 ·rw [aAs hc]
  exact aCn w B av ao nv cv no co xs l kind qty dv sq item hx h hB dev hm hv hn hc
 ·obtain rfl : nv = 4 := by rw [← hx.1]; exact (eP hc).1
  exact aAe w B av ao cv no co xs l kind qty dv sq item hx h hB bX cD hi dev hm hn rfl
theorem aAu (w : World) (B : Nat) (E : Int → Addr) (hE : eA w B E) (av ao : Option Addr) (nv cv no co : Nat) (xs : List Int) (l : List aA) (dev kind qty dv sq : Int) (item : ByteArray) (hx : Ints w B av nv xs) (h : bK w B ao no l) (hB : B ≤ w.heap.size) (bX : nv ≤ cv) (cD : bQ ao no co) (hv : nv ≤ 1048576) (hn : no ≤ 1048576) (hi : item.size ≤ 1048576) :
  Calls Tryz.prog 17 #[.agg #[.slice av nv cv, .slice ao no co], .int .i64 dev, .agg #[.int .i64 kind, .string item, .int .i64 qty, .int .i64 dv, .int .i64 sq]] w (aA8 (cH xs l dev kind item qty dv sq) w) := by
 cases hc : aD xs l
 ·rw [aAs hc]
  exact aCU w B E hE av ao nv cv no co xs l dev kind qty dv sq item hx h hB hv cD.1 ⟨hn, cD.2.1⟩ hc
 ·obtain rfl : nv = 4 := by rw [← hx.1]; exact (eP hc).1
  obtain ⟨g, off, e, _⟩ := hx.2 0 (by omega)
  subst e; exact aGI w B E hE g off ao cv no co xs l dev kind qty dv sq item hx h hB bX cD hn hi
theorem aBW {d : Nat} (hd : d < 4) : ∀ (U : List ByteArray) (zs : List Int) (m : List aA), aD zs m = true → (rN d U zs m).1 = 0 → aD (rN d U zs m).2.1 (rN d U zs m).2.2 = true
 | [], zs, m, h, _ => h
 | s :: U, zs, m, h, h0 => by
  unfold rN at h0 ⊢
  split at h0
  ·rename_i h1
   rw [if_pos h1]; exact aBW hd U _ _ (P9 h hd h1) h0
  ·rename_i h1
   exact absurd h0 h1
theorem O8 {xs : List Int} {l : List aA} (h : aD xs l = true) {dev s : Int} (h0 : (eF xs l dev s).1 = 0) : aD (eF xs l dev s).2.1 (eF xs l dev s).2.2 = true := by
 unfold eF at h0 ⊢
 split at h0
 ·rename_i h1
  rw [if_pos h1]
  split at h0
  ·cases h0
  ·rename_i h2
   rw [if_neg h2]; exact uR h h1 h2
 ·cases h0
theorem aG5 {xs : List Int} {l : List aA} (h : aD xs l = true) {d : Nat} (hd : d < 4) (h0 : (qI xs l d).1 = 0) : aD (qI xs l d).2.1 (qI xs l d).2.2 = true := by
 rw [r8 h hd] at h0 ⊢
 split at h0
 ·cases h0
 ·rename_i h1
  rw [if_neg h1]; exact aBW hd _ _ _ h h0
theorem aHP {xs : List Int} {l : List aA} (h : aD xs l = true) {d : Nat} (hd : d < 4) {kind : Int} {item : ByteArray} {qty dv sq : Int} (h0 : (jJ xs l d kind item qty dv sq).1 = 0) : aD (jJ xs l d kind item qty dv sq).2.1 (jJ xs l d kind item qty dv sq).2.2 = true := by
 unfold jJ at h0 ⊢
 split at h0
 ·rename_i h1
  rw [if_pos h1]; exact aG5 h hd h0
 ·rename_i h1
  rw [if_neg h1]
  split at h0
  ·rename_i h1
   rw [if_pos h1]; exact O8 h h0
  ·rename_i h1
   rw [if_neg h1]
   split at h0
   ·rename_i h1
    rw [if_pos h1]; exact O8 h h0
   ·rename_i h1
    rw [if_neg h1]
    split at h0
    ·rename_i h1
     rw [if_pos h1]; exact O8 h h0
    ·rename_i h1
     rw [if_neg h1]; exact P9 h hd h0
theorem Z1 (xs : List Int) (l : List aA) (dev kind : Int) (item : ByteArray) (qty dv sq : Int) : cH xs l dev kind item qty dv sq = (1, [], []) ∨ aD (cH xs l dev kind item qty dv sq).2.1 (cH xs l dev kind item qty dv sq).2.2 = true := by
 unfold cH
 split
 ·rename_i hok
  right
  have gJ := hok.2.1; unfold cO at gJ; have hd := of_decide_eq_true gJ
  split
  ·rename_i h0
   exact aHP hok.1 (by omega) h0
  ·exact hok.1
 ·exact .inl rfl
theorem eA.kept {w w' : World} {B : Nat} {E : Int → Addr} (h : eA w B E) (hk : ∀ j, j < B → w'.heap[j]? = w.heap[j]?) : eA w' B E := by
 have hl := h.low
 refine ⟨h.low, fun c h1 h2 => ?_, fun c h1 h2 => ?_, h.ne, ?_⟩
 ·have := aGS c
  exact (World.cell?_of_block (a := ⟨gOf c, 0, none⟩) (hk _ (by show gOf c < B; omega))).trans (h.cells c h1 h2)
 ·obtain ⟨a, ca, ta, hc⟩ := h.lies c h1 h2
  exact ⟨a, ca, ta, (hk _ (by omega)).trans hc⟩
 ·exact (World.cell?_of_block (a := ⟨1, 0, none⟩) (hk _ (by show 1 < B; omega))).trans h.typ
theorem aD3 {zs : List Int} {m : List aA} (h : aD zs m = true) : sN zs m 160 :=
 ⟨(eP h).1, fun d hd => ⟨((eP h).2 d hd).1, by have := ((eP h).2 d hd).2; omega⟩, fun i hi => by have := (dG (eT h hi)).2.2.2.1; omega, fun i hi => (dG (eT h hi)).2.2.2.2.1, eL h⟩
theorem aFY (w : World) (B : Nat) (av ao : Option Addr) (cv no co : Nat) (xs : List Int) (l : List aA) (kind qty dv sq : Int) (item : ByteArray) (hx : Ints w B av 4 xs) (h : bK w B ao no l) (hB : B ≤ w.heap.size) (bX : bQ av 4 cv) (cD : bQ ao no co) (hi : item.size ≤ 8) (dev : Int) (hm : ∀ i, i < no → (aB l i).item.size ≤ 1048576) (hn : no ≤ 1048576) :
  Calls Tryz.prog 18 #[.agg #[.slice av 4 cv, .slice ao no co], .int .i64 dev, .agg #[.int .i64 kind, .string item, .int .i64 qty, .int .i64 dv, .int .i64 sq]] w (aIN 320 w) := by
 obtain ⟨⟨c, zs, m⟩, hr⟩ : ∃ r, cH xs l dev kind item qty dv sq = r := ⟨_, rfl⟩
 refine (aAe w B av ao cv no co xs l kind qty dv sq item hx h hB bX cD (by omega) dev hm hn hr).mono fun e w' h => h.weak fun h0 => ?_
 have h1 := Z1 xs l dev kind item qty dv sq
 rw [hr] at h1
 rcases h1 with h1 | h1
 ·injection h1 with h2 _
  omega
 ·exact (aD3 h1).more (by omega)
theorem aFI (W : World) : (Instr.makeSlice 24 (.int .i64 4) (.int .i64 4)).run Tryz.prog W = .ok (.slice (some ⟨W.heap.size, 0, none⟩) 4 4) (W.alloc (.cells #[.int .i64 0, .int .i64 0, .int .i64 0, .int .i64 0] 2)) := by
 obtain ⟨i0, hi, gI, jK, jB⟩ := info_parts Tryz.infoI64
 have h := run_make (P := Tryz.prog) W 24 2 i0 (.int .i64 0) Tryz.underlying24 hi gI .i64 .i64 4 4 (by omega) (by omega) (by rw [jB]; omega) (by omega)
 rw [jK] at h
 have e : madeCells (Value.int .i64 0).cells (Int.toNat 4 * 1) = #[.int .i64 0, .int .i64 0, .int .i64 0, .int .i64 0] := by kernel_rfl
 rw [e] at h
 exact h
theorem aK9 (w : World) : Calls Tryz.prog 130 #[] w fun e w' => ∃ g, e = .returned (.slice (some ⟨g, 0, none⟩) 4 4) ∧ Own w' w.heap.size w'.heap.size (some ⟨g, 0, none⟩) 4 [0, 0, 0, 0] ∧ Below w.heap.size w w' := by
 have hm := aFI
 go_enter Tryz.func130, Tryz.ntmps130
 go_wp2
 go_ret
 exact ⟨_, rfl, aGa (xs := [0, 0, 0, 0]) (heap_alloc_new _ _) (by show _ < (w.heap.push _).size; simp), bl⟩
theorem aDM (w : World) : Calls Tryz.prog 104 #[] w fun e w' => ∃ g, e = .returned (.agg #[.slice (some ⟨g, 0, none⟩) 4 4, .slice none 0 0]) ∧ fP w' w.heap.size w'.heap.size (some ⟨g, 0, none⟩) 4 none 0 0 400 ∧ Below w.heap.size w w' := by
 go_enter Tryz.func104, Tryz.ntmps104
 go_wp2_with fail
 refine (aK9 _).mono ?_
 rintro e w1 ⟨g, rfl, ho, hb⟩
 have hx := bE hb
 have HB := aPu (iT hb)
 obtain ⟨c0, c1⟩ := pair_cells hx
 obtain ⟨f0, f1⟩ := aC hx
 have HX := aPu (cF (.slice (some ⟨g, 0, none⟩) 4 4) (.slice none 0 0) hx)
 have HO : Hid (Own ((w1.setCell ⟨w.heap.size, 0, none⟩ (.slice (some ⟨g, 0, none⟩) 4 4)).setCell ⟨w.heap.size, 1, none⟩ (.slice none 0 0)) w.heap.size w1.heap.size (some ⟨g, 0, none⟩) 4 [0, 0, 0, 0]) := (Own.kept ho fun j h1 h2 => aF _ _ (by have : w.heap.size < (w.alloc (.cells #[.slice none 0 0, .slice none 0 0] 27)).heap.size := by { show _ < (w.heap.push _).size; simp }; omega)).more (by show _ ≤ (w.heap.push _).size; simp) aPw
 have bT := aPu ((HB.out.setCell (p := ⟨w.heap.size, 0, none⟩) aPw (.slice (some ⟨g, 0, none⟩) 4 4)).setCell (p := ⟨w.heap.size, 1, none⟩) aPw (.slice none 0 0))
 have cP := aPu (aZ w1 w.heap.size (.slice (some ⟨g, 0, none⟩) 4 4) (.slice none 0 0))
 clear hx hb ho
 go_wp2
 generalize (w1.setCell ⟨w.heap.size, 0, none⟩ (.slice (some ⟨g, 0, none⟩) 4 4)).setCell ⟨w.heap.size, 1, none⟩ (.slice none 0 0) = wf at HX HO bT cP ⊢
 obtain ⟨d0, d1⟩ := pair_cells HX.out
 refine bodyPost_ret (v := .agg #[.slice (some ⟨g, 0, none⟩) 4 4, .slice none 0 0]) (by simp [results, Tryz.results104, go_sem, d0, d1]) rfl ⟨g, rfl, ⟨[0, 0, 0, 0], [], rfl, HO.out.more aPw (Nat.le_of_eq cP.out.symm), dV _ _ _ _, ⟨Nat.le_refl _, by unfold C3 maxLen; omega, fun h => by cases h⟩, cN, ?_⟩, bT.out⟩
 refine ⟨rfl, fun d hd => ?_, fun i hi => absurd hi (by simp), fun i hi => absurd hi (by simp), Nat.zero_le _⟩
 match d, hd with
 | 0, _ => exact ⟨Int.le_refl _, by show (0 : Int) ≤ 1000; omega⟩
 | 1, _ => exact ⟨Int.le_refl _, by show (0 : Int) ≤ 1000; omega⟩
 | 2, _ => exact ⟨Int.le_refl _, by show (0 : Int) ≤ 1000; omega⟩
 | 3, _ => exact ⟨Int.le_refl _, by show (0 : Int) ≤ 1000; omega⟩
structure cB where
 va : Option Addr
 vc : Nat
 oa : Option Addr
 no : Nat
 oc : Nat
def cB.zero : cB := ⟨none, 0, none, 0, 0⟩
def J8 (x : cB) : List Value := [.slice x.va 4 x.vc, .slice x.oa x.no x.oc]
def aI (l : List cB) (i : Nat) : cB := l.getD i cB.zero
def vA : List cB → List Value
 | [] => []
 | x :: l => J8 x ++ vA l
theorem aAw (x : cB) : ∀ l, vA (l ++ [x]) = vA l ++ J8 x
 | [] => rfl
 | q :: l => by show J8 q ++ vA (l ++ [x]) = (J8 q ++ vA l) ++ J8 x; rw [aAw x l, List.append_assoc]
theorem aDa : ∀ (l : List cB) (i : Nat), i < l.length → (vA l)[i * 2]? = some (.slice (aI l i).va 4 (aI l i).vc) ∧ (vA l)[i * 2 + 1]? = some (.slice (aI l i).oa (aI l i).no (aI l i).oc)
 | x :: l, 0, _ => ⟨rfl, rfl⟩
 | x :: l, i + 1, h => by
  have := aDa l i (by simpa using h)
  have e : (i + 1) * 2 = i * 2 + 2 := by omega
  rw [e]; exact this
theorem aKq {l : List cB} {x : cB} {i : Nat} (h : i < l.length) : aI (l ++ [x]) i = aI l i := by
 unfold aI; rw [List.getD_eq_getElem?_getD, List.getD_eq_getElem?_getD, List.getElem?_append_left h]
theorem aKr (l : List cB) (x : cB) : aI (l ++ [x]) l.length = x := by
 unfold aI; simp
theorem aEx {l : List cB} {x : cB} {i k : Nat} (hk : k < l.length) : aI (l.set k x) i = if k = i then x else aI l i := by
 unfold aI; exact gZ hk
def tY (w : World) (lo hi : Nat) (x : cB) : Prop := fP w lo hi x.va x.vc x.oa x.no x.oc 400
theorem fP.other {w w' : World} {lo hi q N : Nat} {va oa : Option Addr} {vc no oc : Nat} {cs : Array Value} {fr : Nat × Nat} (h : fP w lo hi va vc oa no oc N) (hq : w.heap[q]? = some (.cells cs 27 fr)) (hk : ∀ j, lo ≤ j → j < hi → j ≠ q → w'.heap[j]? = w.heap[j]?) : fP w' lo hi va vc oa no oc N := by
 obtain ⟨zs, m, e, a, b, c, d, f⟩ := h
 refine ⟨zs, m, e, ⟨a.1, fun hn => ?_⟩, ⟨b.1, fun hn => ?_⟩, c, d, f⟩
 ·obtain ⟨g, aV, e1, h1, h2, hg, hc⟩ := a.2 hn
  have bJ : g ≠ q := by
   intro e2
   rw [e2, hq] at hg; injection hg with hg; injection hg with _ hg; exact absurd hg (by decide)
  exact ⟨g, aV, e1, h1, h2, (hk g h1 h2 bJ).trans hg, hc⟩
 ·obtain ⟨g, off, aV, e1, h1, h2, hg, hs, hc⟩ := b.2 hn
  have bJ : g ≠ q := by
   intro e2
   rw [e2, hq] at hg; injection hg with hg; injection hg with _ hg; exact absurd hg (by decide)
  exact ⟨g, off, aV, e1, h1, h2, (hk g h1 h2 bJ).trans hg, hs, hc⟩
theorem aGE : (Tryz.prog.info? 27).map (fun i => (i.zero, i.size, i.bytes)) = some (some (.agg #[.slice none 0 0, .slice none 0 0]), 2, 48) := by kernel_rfl
structure D6 (w : World) (base : Nat) (v : Value) (l : List cB) : Prop where
 row : w.ownsRow base 27 2 v l.length (vA l)
 crt : ∀ i, i < l.length → tY w base w.heap.size (aI l i)
theorem D6.below {w w' : World} {base : Nat} {v : Value} {l : List cB} (h : D6 w base v l) (hb : Below w.heap.size w w') : D6 w' base v l :=
 ⟨h.row.kept (row := none) ⟨hb.os, hb.tape, hb.output, hb.size, fun j hj _ => hb.block j hj⟩ (by rcases v.ownBlock with _ | q; exact .inl rfl; exact .inr (fun e => by cases e)), fun i hi => (fP.below (h.crt i hi) hb aPw).more aPw hb.size aPw⟩
theorem D6.push {z0 : World} {base : Nat} {v : Value} {l : List cB} (h : D6 z0 base v l) (gX : base ≤ z0.heap.size) (hl : l.length ≤ 100) (x : cB) (hx : tY z0 base z0.heap.size x) :
  ∃ va vc z3, (Builtin.append_ #[111, 111] 111 #[v, .slice (some ⟨z0.heap.size, 0, none⟩) 1 1]).run Tryz.prog (z0.alloc (.cells #[.slice x.va 4 x.vc, .slice x.oa x.no x.oc] 27)) = .ok (.slice va (l.length + 1) vc) z3 ∧ D6 z3 base (.slice va (l.length + 1) vc) (l ++ [x]) ∧ Below base z0 z3 := by
 obtain ⟨i0, hi, gI, jK, jB⟩ := info_parts aGE
 have aKP := h.row.alloc (.cells #[.slice x.va 4 x.vc, .slice x.oa x.no x.oc] 27)
 obtain ⟨v', z3, hrun, aY, iR, _⟩ := run_append_own (P := Tryz.prog) (z0.alloc (.cells #[.slice x.va 4 x.vc, .slice x.oa x.no x.oc] 27)) base 111 111 27 i0 (.agg #[.slice none 0 0, .slice none 0 0]) 2 48 Tryz.underlying111 hi gI jK jB rfl (by decide) v l.length (vA l) aKP ⟨z0.heap.size, 0, none⟩ 1 1 (J8 x) rfl
  (by
   intro j u hj
   have hn := heap_alloc_new z0 (.cells #[.slice x.va 4 x.vc, .slice x.oa x.no x.oc] 27); obtain ⟨p0, p1⟩ := pair_cells hn
   match j, hj with
   | 0, hj => simp [J8] at hj; subst hj; simp only [Addr.add]; exact p0
   | 1, hj => simp [J8] at hj; subst hj; simp only [Addr.add]; exact p1)
  (by intro u hu; simp [J8] at hu; rcases hu with rfl | rfl <;> rfl) (by unfold maxLen; omega) (by omega) (by show _ ≤ (z0.heap.push _).size; simp; omega)
 obtain ⟨va, vc, rfl⟩ : ∃ va vc, v' = .slice va (l.length + 1) vc := by
  rcases aY.2 with ⟨_, e2⟩ | ⟨_, c2, _, e2, _⟩
  ·omega
  ·exact ⟨_, c2, e2⟩
 have kb : ∀ j, j < z0.heap.size → (z0.alloc (.cells #[.slice x.va 4 x.vc, .slice x.oa x.no x.oc] 27)).heap[j]? = z0.heap[j]? := fun j hj => Below.heap_alloc _ _ _ hj
 have hsa : z0.heap.size < (z0.alloc (.cells #[.slice x.va 4 x.vc, .slice x.oa x.no x.oc] 27)).heap.size := by show _ < (z0.heap.push _).size; simp
 have hrl : ∀ j, v.ownBlock = some j → base ≤ j := fun j hj => (aKP.lt j hj).1
 have k3 : ∀ j, j < z0.heap.size → v.ownBlock ≠ some j → z3.heap[j]? = z0.heap[j]? := fun j hj bJ => (iR.block j (by omega) (fun e => bJ e.symm)).trans (kb j hj)
 have hU := iR.size
 have aLb : ∀ y : cB, tY z0 base z0.heap.size y → tY z3 base z3.heap.size y := fun y hy => by
  refine fP.more ?_ (Nat.le_refl base) (by omega : z0.heap.size ≤ z3.heap.size) (Nat.le_refl 400)
  rcases hv : v.ownBlock with _ | q
  ·exact fP.kept hy fun j _ h2 => k3 j h2 (by rw [hv]; intro e; cases e)
  ·rcases h.row.2 with ⟨e2, _⟩ | ⟨q', cap, cu, e2, _, hq, _⟩
   ·rw [e2] at hv; simp [Value.ownBlock] at hv
   ·rw [e2] at hv
    have e3 : q' = q := by simpa [Value.ownBlock] using hv
    subst e3; refine fP.other hy hq fun j _ h2 bJ => k3 j h2 ?_
    rw [e2]
    intro e
    simp [Value.ownBlock] at e
    exact bJ e.symm
 have b3 : Below base z0 z3 := ((Below.refl base z0).alloc gX _).grown iR (by omega) fun q hq => hrl q hq
 refine ⟨va, vc, z3, hrun, ⟨?_, fun i hi' => ?_⟩, b3⟩
 ·rw [aAw, List.length_append]
  exact aY
 ·by_cases e : i = l.length
  ·subst e
   rw [aKr]; exact aLb x hx
  ·have pY : i < l.length := by simp at hi'; omega
   rw [aKq pY]; exact aLb _ (h.crt i pY)
structure aMY (w : World) (base q : Nat) (l : List cB) : Prop where
 lo : base ≤ q
 cells : ∃ cs, w.heap[q]? = some (.cells cs 27 (0, 0)) ∧ ∀ i, i < l.length → cs[i * 2]? = some (.slice (aI l i).va 4 (aI l i).vc) ∧ cs[i * 2 + 1]? = some (.slice (aI l i).oa (aI l i).no (aI l i).oc)
 crt : ∀ i, i < l.length → tY w base w.heap.size (aI l i)
theorem D6.form {w : World} {base : Nat} {v : Value} {l : List cB} (h : D6 w base v l) (hn : 0 < l.length) : ∃ q c, v = .slice (some ⟨q, 0, none⟩) l.length c ∧ aMY w base q l := by
 rcases h.row.2 with ⟨_, e2⟩ | ⟨q, cap, cu, e2, iQ, hq, _, _, _, hx⟩
 ·omega
 ·have yU : ∀ (j : Nat) (u : Value), (vA l)[j]? = some u → cu[j]? = some u := fun j u hu => by
   rw [← hx, List.getElem?_take] at hu
   split at hu
   ·simpa using hu
   ·cases hu
  refine ⟨q, cap, e2, iQ, ⟨cu, hq, fun i hi => ?_⟩, h.crt⟩
  obtain ⟨c0, c1⟩ := aDa l i hi; exact ⟨yU _ _ c0, yU _ _ c1⟩
theorem i6 {w w' : World} {g : Nat} (h : Below w.heap.size w w') : w.grownBy w' (some g) := ⟨h.os, h.tape, h.output, h.size, fun k hk _ => h.block k hk⟩
theorem R0 {xs : List Int} {l : List aA} (hc : aD xs l = true) (x : ByteArray) : x ∈ oJ xs l ↔ aO x l l.length % 2 = 1 := by
 unfold oJ
 rw [if_pos hc, oS]
 refine ⟨fun h => h.1, fun h => ⟨h, ?_⟩⟩
 obtain ⟨i, hi, e, _⟩ := I3 x l l.length (by intro e; rw [e] at h; exact absurd h (by decide))
 exact ⟨i, hi, e⟩
theorem aBH {xs ys : List Int} {l m : List aA} (hc : aD xs l = true) (hd : aD ys m = true) (h1 : ∀ x, aO x m m.length % 2 = 1 ↔ aO x l l.length % 2 = 1) (h2 : ∀ x, aO x l l.length % 2 = 1 → iX m x = iX l x) : gH ys m = gH xs l := by
 have e : oJ ys m = oJ xs l := asc_one (aBL ys m) (aBL xs l) fun x => by rw [R0 hd, R0 hc]; exact h1 x
 unfold gH
 rw [e]
 exact List.map_congr_left fun x hx => h2 x ((R0 hc x).1 hx)
def yI (x : ByteArray) (a : Int) (o : aA) : Int := if o.item = x ∧ o.undos % 2 = 0 then max a o.level else a
theorem aCI (x : ByteArray) (t : Int) : ∀ (l : List aA) (a : Int), l.foldl (yI x) (max a t) = max (l.foldl (yI x) a) t
 | [], _ => rfl
 | o :: l, a => by
  rw [List.foldl_cons, List.foldl_cons]; have e : yI x (max a t) o = max (yI x a o) t := by unfold yI; split <;> omega
  rw [e]; exact aCI x t l _
theorem zW (l : List aA) (d : Nat) (o : aA) : ∃ A B, l = A ++ B ∧ bN l d o = A ++ (o :: B) := by
 refine ⟨l.take (putAt (d : Int) l), l.drop (putAt (d : Int) l), (List.take_append_drop _ _).symm, ?_⟩
 unfold bN
 rw [List.append_assoc]
 rfl
theorem aK7 {x : ByteArray} {l : List aA} {d : Nat} {o : aA} (h : o.item = x) (hu : o.undos % 2 = 0) : aO x (bN l d o) (bN l d o).length = max (aO x l l.length) o.level := by
 rw [xQ, xQ]
 obtain ⟨A, B, e1, e2⟩ := zW l d o
 rw [e2]
 subst e1
 show List.foldl (yI x) 0 (A ++ (o :: B)) = max (List.foldl (yI x) 0 (A ++ B)) o.level
 rw [List.foldl_append, List.foldl_append, List.foldl_cons, ← aCI]
 congr 1
 unfold yI
 rw [if_pos ⟨h, hu⟩]
theorem aKd {x : ByteArray} {l : List aA} {d : Nat} {o : aA} (h : ¬ (o.item = x ∧ o.undos % 2 = 0)) : aO x (bN l d o) (bN l d o).length = aO x l l.length := by
 rw [xQ, xQ]
 obtain ⟨A, B, e1, e2⟩ := zW l d o
 rw [e2]
 subst e1
 show List.foldl (yI x) 0 (A ++ (o :: B)) = List.foldl (yI x) 0 (A ++ B)
 rw [List.foldl_append, List.foldl_append, List.foldl_cons]
 congr 1
 unfold yI
 rw [if_neg h]
def oH (P : Int → Bool) (x : ByteArray) (b o : aA) : aA := if (P o.kind = true ∧ o.item = x ∧ o.undos % 2 = 0) ∧ (b.kind = 0 ∨ mC b o = true) then o else b
theorem aAE (P : Int → Bool) (x : ByteArray) : ∀ (l : List aA) (b : aA), l.foldl (oH P x) b = b ∨ l.foldl (oH P x) b ∈ l
 | [], b => .inl rfl
 | o :: l, b => by
  rw [List.foldl_cons]; rcases aAE P x l (oH P x b o) with h | h
  ·rw [h]
   unfold oH
   split
   ·exact .inr (List.mem_cons_self ..)
   ·exact .inl rfl
  ·exact .inr (List.mem_cons_of_mem _ h)
theorem aAD {P : Int → Bool} {x : ByteArray} {o : aA} (hk : o.kind ≠ 0) : ∀ l : List aA, (∀ y, y ∈ l → mC o y = false) → l.foldl (oH P x) o = o
 | [], _ => rfl
 | y :: l, h => by
  rw [List.foldl_cons]; have e : oH P x o y = o := by
   unfold oH; rw [if_neg]; rintro ⟨_, h1 | h1⟩
   ·exact hk h1
   ·rw [h y (List.mem_cons_self ..)] at h1
    cases h1
  rw [e]; exact aAD hk l fun z hz => h z (List.mem_cons_of_mem _ hz)
theorem aKs {P : Int → Bool} {x : ByteArray} {l : List aA} {d : Nat} {o : aA} (hP : P o.kind = true) (hi : o.item = x) (hu : o.undos % 2 = 0) (hk : o.kind ≠ 0) (h : ∀ y, y ∈ l → mC y o = true ∧ mC o y = false) : bA P x (bN l d o) (bN l d o).length = o := by
 rw [t7]
 obtain ⟨A, B, e1, e2⟩ := zW l d o
 rw [e2]
 subst e1
 show List.foldl (oH P x) aA.zero (A ++ (o :: B)) = o
 rw [List.foldl_append, List.foldl_cons]
 have e : oH P x (List.foldl (oH P x) aA.zero A) o = o := by
  have hb := aAE P x A aA.zero; generalize List.foldl (oH P x) aA.zero A = b at hb; unfold oH; rw [if_pos]; refine ⟨⟨hP, hi, hu⟩, ?_⟩
  rcases hb with rfl | hb
  ·exact .inl rfl
  ·exact .inr (h b (List.mem_append_left _ hb)).1
 rw [e]
 exact aAD hk B fun y hy => (h y (List.mem_append_right _ hy)).2
theorem t6 {P : Int → Bool} {x : ByteArray} {l : List aA} {d : Nat} {o : aA} (h : ¬ (P o.kind = true ∧ o.item = x ∧ o.undos % 2 = 0)) : bA P x (bN l d o) (bN l d o).length = bA P x l l.length := by
 rw [t7, t7]
 obtain ⟨A, B, e1, e2⟩ := zW l d o
 rw [e2]
 subst e1
 show List.foldl (oH P x) aA.zero (A ++ (o :: B)) = List.foldl (oH P x) aA.zero (A ++ B)
 rw [List.foldl_append, List.foldl_append, List.foldl_cons]
 congr 1
 unfold oH
 rw [if_neg fun q => h q.1]
theorem aGj {xs : List Int} {l : List aA} {d : Nat} {o : aA} : ∀ y, y ∈ l → mC y (aN xs l d o) = true ∧ mC (aN xs l d o) y = false := fun y hy => by
 obtain ⟨i, hi, e⟩ := List.mem_iff_getElem.1 hy
 have e2 : aB l i = y := by unfold aB; rw [List.getD_eq_getElem?_getD, List.getElem?_eq_getElem hi]; exact e
 have := G6 l l.length i hi
 rw [e2] at this
 have hs : (aN xs l d o).stamp = cY l l.length + 1 := rfl
 unfold mC preB
 rw [hs]
 exact ⟨decide_eq_true (.inl (by omega)), decide_eq_false (by omega)⟩
def Alike (a b : aA) : Prop := a.dev = b.dev ∧ a.seq = b.seq ∧ a.stamp = b.stamp ∧ a.kind = b.kind ∧ a.item = b.item ∧ a.qty = b.qty ∧ a.level = b.level ∧ a.undos % 2 = b.undos % 2
theorem Alike.refl (a : aA) : Alike a a := ⟨rfl, rfl, rfl, rfl, rfl, rfl, rfl, rfl⟩
theorem aBI {l m : List aA} (h : ∀ i, Alike (l.getD i aA.zero) (m.getD i aA.zero)) (x : ByteArray) : ∀ k, aO x l k = aO x m k
 | 0 => rfl
 | k + 1 => by
  obtain ⟨_, _, _, _, h5, _, h7, h8⟩ := h k; rw [aO, aO, aBI h x k, h5, h7, h8]
theorem J9 {l m : List aA} (h : ∀ i, Alike (l.getD i aA.zero) (m.getD i aA.zero)) (P : Int → Bool) (x : ByteArray) : ∀ k, Alike (bA P x l k) (bA P x m k)
 | 0 => Alike.refl _
 | k + 1 => by
  have ih := J9 h P x k; have hk := h k; rw [bA, bA]; generalize bA P x l k = a at ih; generalize bA P x m k = b at ih; generalize l.getD k aA.zero = p at hk; generalize m.getD k aA.zero = q at hk; obtain ⟨a1, a2, a3, a4, a5, a6, a7, a8⟩ := id ih; obtain ⟨b1, b2, b3, b4, b5, b6, b7, b8⟩ := id hk; have e : mC a p = mC b q := by unfold mC; rw [a1, a2, a3, b1, b2, b3]
  rw [e, a4, b4, b5, b8]
  split
  ·exact hk
  ·exact ih
theorem aES {l m : List aA} (hl : l.length = m.length) (h : ∀ i, Alike (l.getD i aA.zero) (m.getD i aA.zero)) (x : ByteArray) : iX l x = iX m x := by
 unfold iX
 rw [hl, (J9 h wD x m.length).2.2.2.2.2.1, (J9 h gR x m.length).2.2.2.1]
theorem aDT {xs ys : List Int} {l m : List aA} (hc : aD xs l = true) (hd : aD ys m = true) (hl : l.length = m.length) (h : ∀ i, Alike (l.getD i aA.zero) (m.getD i aA.zero)) : gH ys m = gH xs l :=
 aBH hc hd (fun x => by rw [aBI h x, hl]) fun x _ => (aES hl h x).symm
theorem aFQ {l : List aA} {i : Nat} (hi : i < l.length) (j : Nat) : Alike (l.getD j aA.zero) ((dI (dI l i) i).getD j aA.zero) := by
 have h1 : ∀ k, (dI l i).getD k aA.zero = if i = k then eV (aB l i) else l.getD k aA.zero := fun k => by unfold dI; exact gZ hi
 have hi2 : i < (dI l i).length := by rw [jY]; exact hi
 have h2 : (dI (dI l i) i).getD j aA.zero = if i = j then eV (aB (dI l i) i) else (dI l i).getD j aA.zero := by
  show ((dI l i).set i (eV (aB (dI l i) i))).getD j aA.zero = _
  exact gZ hi2
 rw [h2]
 split
 ·rename_i e
  subst e; have h3 : aB (dI l i) i = eV (aB l i) := (h1 i).trans (if_pos rfl); rw [h3]; refine ⟨rfl, rfl, rfl, rfl, rfl, rfl, rfl, ?_⟩
  show (aB l i).undos % 2 = ((aB l i).undos + 1 + 1) % 2
  omega
 ·rename_i e
  rw [h1, if_neg e]; exact Alike.refl _
theorem aEc {l : List aA} {d : Nat} {o : aA} : dI (bN l d o) (putAt (d : Int) l) = bN l d (eV o) := by
 have e : aB (bN l d o) (putAt (d : Int) l) = o := put_eq l d o
 have wP := oE (d : Int) l
 unfold dI
 rw [e]
 unfold bN
 rw [List.append_assoc, List.append_assoc, List.set_append_right _ _ (by rw [List.length_take]; omega), List.length_take, Nat.min_eq_left wP, Nat.sub_self]
 rfl
theorem aEd {l : List aA} {d : Nat} {o : aA} : putAt (d : Int) l < (bN l d o).length := by
 have := oE (d : Int) l
 rw [rL]
 omega
structure aA5 (xs : List Int) (l : List aA) (d : Nat) (kind : Int) (item : ByteArray) (qty : Int) (r : Int × List Int × List aA) : Prop where
 ok : (aN xs l d (oneOf (aO item l l.length) (bW l item) kind item qty).1).ok = true
 code : (oneOf (aO item l l.length) (bW l item) kind item qty).2 = 0
 eq : r = (0, dF xs d, bN l d (aN xs l d (oneOf (aO item l l.length) (bW l item) kind item qty).1))
theorem aHw {xs : List Int} {l : List aA} {d : Nat} {kind : Int} {item : ByteArray} {qty : Int} (h : (dW xs l d kind item qty).1 = 0) : aA5 xs l d kind item qty (dW xs l d kind item qty) := by
 unfold dW at h ⊢
 dsimp only at h ⊢
 split at h
 ·rename_i h1
  rw [if_pos h1]
  split at h
  ·rename_i h2
   rw [if_pos h2]; exact ⟨h2, h1, rfl⟩
  ·cases h
 ·rename_i h1
  exact absurd h h1
def aOA (l : List aA) (x : ByteArray) (t : Bool) (q : Int) (s : Bool) : Prop := (aO x l l.length % 2 = 1 ↔ t = true) ∧ (t = true → (iX l x).qty = q ∧ (iX l x).saved = s)
theorem aCw {wL : Int} {sv : Bool} {kind : Int} {item : ByteArray} {qty : Int} (h : (oneOf wL sv kind item qty).2 = 0) : (oneOf wL sv kind item qty).1.item = item ∧ (oneOf wL sv kind item qty).1.undos = 0 ∧ (oneOf wL sv kind item qty).1.kind = kind ∧ 1 ≤ kind ∧ kind ≤ 5 := by
 unfold oneOf at h ⊢
 repeat' split at h
 all_goals first | (exact absurd h (by decide)) | (simp_all)
theorem aA5.item {xs : List Int} {l : List aA} {d : Nat} {kind : Int} {item : ByteArray} {qty : Int} {r : Int × List Int × List aA} (h : aA5 xs l d kind item qty r) :
  (kind = 1 → ¬ aO item l l.length % 2 = 1 ∧ aO item r.2.2 r.2.2.length % 2 = 1 ∧ iX r.2.2 item = ⟨item, qty, false⟩) ∧
  (kind = 2 → aO item l l.length % 2 = 1 ∧ aO item r.2.2 r.2.2.length % 2 = 1 ∧ iX r.2.2 item = ⟨item, qty, (iX l item).saved⟩) ∧
  (kind = 3 → aO item l l.length % 2 = 1 ∧ ¬ aO item r.2.2 r.2.2.length % 2 = 1) ∧
  (kind = 4 → aO item l l.length % 2 = 1 ∧ aO item r.2.2 r.2.2.length % 2 = 1 ∧ (iX l item).saved = false ∧ iX r.2.2 item = ⟨item, (iX l item).qty, true⟩) ∧
  (kind = 5 → aO item l l.length % 2 = 1 ∧ aO item r.2.2 r.2.2.length % 2 = 1 ∧ (iX l item).saved = true ∧ iX r.2.2 item = ⟨item, (iX l item).qty, false⟩) := by
 obtain ⟨hok, cJ, he⟩ := h
 obtain ⟨hi, hu, hk, _, _⟩ := aCw cJ
 have aJx := aGj (xs := xs) (l := l) (d := d) (o := (oneOf (aO item l l.length) (bW l item) kind item qty).1)
 have aO5 := rY item l l.length
 have hsv : (iX l item).saved = bW l item := rfl
 have hr : r.2.2 = bN l d (aN xs l d (oneOf (aO item l l.length) (bW l item) kind item qty).1) := by rw [he]
 rw [hr, hsv]
 clear he hr hsv
 have L1 := aK7 (x := item) (l := l) (d := d) (o := aN xs l d (oneOf (aO item l l.length) (bW l item) kind item qty).1) hi (by show (oneOf _ _ _ _ _).1.undos % 2 = 0; rw [hu]; rfl)
 have B1 := fun (P : Int → Bool) (hP : P kind = true) => aKs (P := P) (x := item) (l := l) (d := d) (o := aN xs l d (oneOf (aO item l l.length) (bW l item) kind item qty).1) (by show P (oneOf _ _ _ _ _).1.kind = true; rw [hk]; exact hP) hi (by show (oneOf _ _ _ _ _).1.undos % 2 = 0; rw [hu]; rfl) (by show (oneOf _ _ _ _ _).1.kind ≠ 0; rw [hk]; omega) aJx
 have B0 := fun (P : Int → Bool) (hP : P kind = false) => t6 (P := P) (x := item) (l := l) (d := d) (o := aN xs l d (oneOf (aO item l l.length) (bW l item) kind item qty).1) (by intro q; have q1 : P (oneOf _ _ _ _ _).1.kind = true := q.1; rw [hk, hP] at q1; cases q1)
 rw [L1]
 have lv : (aN xs l d (oneOf (aO item l l.length) (bW l item) kind item qty).1).level = (oneOf (aO item l l.length) (bW l item) kind item qty).1.level := rfl
 have hq : (aN xs l d (oneOf (aO item l l.length) (bW l item) kind item qty).1).qty = (oneOf (aO item l l.length) (bW l item) kind item qty).1.qty := rfl
 have hkd : (aN xs l d (oneOf (aO item l l.length) (bW l item) kind item qty).1).kind = kind := hk
 rw [lv]
 unfold iX
 generalize aN xs l d (oneOf (aO item l l.length) (bW l item) kind item qty).1 = o at B1 B0 hq hkd
 refine ⟨?_, ?_, ?_, ?_, ?_⟩
 all_goals
  rintro rfl
 ·rw [B1 wD rfl, B1 gR rfl, hq, hkd]
  unfold oneOf at cJ ⊢; rw [if_pos rfl] at cJ ⊢
  split at cJ
  ·exact absurd cJ (by decide)
  ·rename_i h1
   rw [if_neg h1]; refine ⟨h1, ?_, rfl⟩
   show max (aO item l l.length) (aO item l l.length + 1) % 2 = 1
   omega
 ·rw [B1 wD rfl, B0 gR rfl, hq]
  unfold oneOf at cJ ⊢; rw [if_neg (by decide)] at cJ ⊢
  split at cJ
  ·rename_i h1
   rw [if_pos h1, if_pos rfl]; refine ⟨h1, ?_, rfl⟩
   show max (aO item l l.length) 0 % 2 = 1
   omega
  ·exact absurd cJ (by decide)
 ·unfold oneOf at cJ ⊢
  rw [if_neg (by decide)] at cJ ⊢
  split at cJ
  ·rename_i h1
   rw [if_pos h1, if_neg (by decide), if_pos rfl]
   refine ⟨h1, ?_⟩
   show ¬ max (aO item l l.length) (aO item l l.length + 1) % 2 = 1
   omega
  ·exact absurd cJ (by decide)
 ·rw [B0 wD rfl, B1 gR rfl, hkd]
  unfold oneOf at cJ ⊢; rw [if_neg (by decide)] at cJ ⊢
  split at cJ
  ·rename_i h1
   rw [if_pos h1, if_neg (by decide), if_neg (by decide), if_pos rfl]
   rw [if_neg (by decide), if_neg (by decide), if_pos rfl] at cJ
   split at cJ
   ·exact absurd cJ (by decide)
   ·rename_i h2
    rw [if_neg h2]; refine ⟨h1, ?_, ?_, rfl⟩
    ·show max (aO item l l.length) 0 % 2 = 1
     omega
    ·cases hs : bW l item
     ·rfl
     ·exact absurd hs h2
  ·exact absurd cJ (by decide)
 ·rw [B0 wD rfl, B1 gR rfl, hkd]
  unfold oneOf at cJ ⊢; rw [if_neg (by decide)] at cJ ⊢
  split at cJ
  ·rename_i h1
   rw [if_pos h1, if_neg (by decide), if_neg (by decide), if_neg (by decide), if_pos rfl]
   rw [if_neg (by decide), if_neg (by decide), if_neg (by decide), if_pos rfl] at cJ
   split at cJ
   ·rename_i h2
    rw [if_pos h2]; refine ⟨h1, ?_, h2, rfl⟩
    show max (aO item l l.length) 0 % 2 = 1
    omega
   ·exact absurd cJ (by decide)
  ·exact absurd cJ (by decide)
theorem aBT {kind : Int} {item : ByteArray} {qty dv sq : Int} (h : fW kind item qty dv sq = true) : 1 ≤ kind ∧ kind ≤ 9 := by
 unfold fW at h
 repeat' split at h
 all_goals first | omega | cases h
theorem aKn {kind : Int} {item : ByteArray} {qty dv sq : Int} (h : fW kind item qty dv sq = true) (hk : kind ≤ 5) : gO item = true := by
 have := aBT h
 unfold fW at h
 split at h
 ·rw [Bool.and_eq_true] at h; exact h.1
 ·split at h
  ·rw [Bool.and_eq_true] at h; exact h.1
  ·rename_i h1 h2
   omega
theorem aEW {xs : List Int} {l : List aA} {dev kind : Int} {item : ByteArray} {qty dv sq : Int} (h0 : (cH xs l dev kind item qty dv sq).1 = 0) (hk : kind ≤ 5) : aD xs l = true ∧ (0 ≤ dev ∧ dev ≤ 3) ∧ 1 ≤ kind ∧ gO item = true ∧ aA5 xs l dev.toNat kind item qty (cH xs l dev kind item qty dv sq) := by
 unfold cH at h0 ⊢
 split at h0
 ·rename_i hok
  rw [if_pos hok]
  split at h0
  ·rename_i h1
   rw [if_pos h1]; have h2 : jJ xs l dev.toNat kind item qty dv sq = dW xs l dev.toNat kind item qty := by
    unfold jJ; rw [if_neg (by omega), if_neg (by omega), if_neg (by omega), if_neg (by omega)]
   rw [h2] at h1 ⊢; exact ⟨hok.1, eR.1 hok.2.1, (aBT hok.2.2).1, aKn hok.2.2 hk, aHw h1⟩
  ·rename_i h1
   exact absurd h0 h1
 ·cases h0
theorem aA5.cart {xs : List Int} {l : List aA} {d : Nat} {kind : Int} {item : ByteArray} {qty : Int} {r : Int × List Int × List aA} (h : aA5 xs l d kind item qty r) (hc : aD xs l = true) (hd : d < 4) : aD r.2.1 r.2.2 = true := by
 rw [h.eq]
 exact J7 hc hd h.ok
theorem aIF {xs : List Int} {l : List aA} (hc : aD xs l = true) {i : Nat} (hi : i < l.length) {d : Nat} (hd : (aB l i).dev = (d : Int)) : (aB l i).seq ≤ xs.getD d 0 := by
 obtain ⟨e, he, h1, h2, _, h3, h4⟩ := pW hc hi
 have : e = d := by omega
 subst this
 have h5 : aL xs (e + 1) = aL xs e + (xs.getD e 0).toNat := rfl
 omega
theorem aDK {xs : List Int} {l : List aA} (hc : aD xs l = true) {d : Nat} (hd : d < 4) {o : aA} (hok : (aN xs l d o).ok = true) (hu : o.undos = 0) : bV (d : Int) (bN l d (aN xs l d o)) (bN l d (aN xs l d o)).length = xs.getD d 0 + 1 := by
 have cM := J7 hc hd hok
 have ha := put_eq l d (aN xs l d o)
 have hp := aEd (l := l) (d := d) (o := aN xs l d o)
 have hv := E2 (xs := xs) (d := d) (e := d) (eP hc).1 hd
 rw [if_pos rfl] at hv
 have h1 := (vB cM (d : Int) _ aPw).1 _ hp (by rw [ha]; rfl) (by rw [ha]; show o.undos % 2 = 0; rw [hu]; rfl)
 rw [ha] at h1
 have h1 : xs.getD d 0 + 1 ≤ bV (d : Int) (bN l d (aN xs l d o)) (bN l d (aN xs l d o)).length := h1
 rcases rT (d : Int) (bN l d (aN xs l d o)) (bN l d (aN xs l d o)).length with h2 | ⟨j, hj, h3, h4⟩
 ·have := ((eP hc).2 d hd).1
  omega
 ·have := aIF cM hj h3
  omega
theorem R1 {xs : List Int} {l : List aA} {d : Nat} (hc : aD xs l = true) (hd : d < 4) {kind s : Int} (hs : (kind = 7 ∧ s = bV (d : Int) l l.length) ∨ (kind = 8 ∧ s = jH xs d l)) : cH xs l (d : Int) kind ⟨#[]⟩ 0 0 0 = if (eF xs l (d : Int) s).1 = 0 then eF xs l (d : Int) s else ((eF xs l (d : Int) s).1, xs, l) := by
 have hk : kind = 7 ∨ kind = 8 := by omega
 unfold cH
 rw [if_pos ⟨hc, uP (by omega) (by omega), by rcases hk with rfl | rfl <;> rfl⟩]
 have e : jJ xs l (d : Int).toNat kind ⟨#[]⟩ 0 0 0 = eF xs l (d : Int) s := by
  unfold jJ; rcases hs with ⟨rfl, rfl⟩ | ⟨rfl, rfl⟩
  ·rw [if_neg (by decide), if_pos rfl]
   rfl
  ·rw [if_neg (by decide), if_neg (by decide), if_pos rfl]
   rfl
 rw [e]
theorem aFU {xs : List Int} {l : List aA} (hc : aD xs l = true) {i : Nat} (hi : i < l.length) {dev s : Int} (h1 : (aB l i).dev = dev) (h2 : (aB l i).seq = s) (hu : (aB l i).undos ≠ 50) : eF xs l dev s = (0, xs, dI l i) := by
 unfold eF
 rw [E4 hc hi h1 h2, if_pos hi, if_neg hu]
theorem aOy {xs : List Int} {l : List aA} {dev kind : Int} {item : ByteArray} {qty dv sq : Int} (h0 : (cH xs l dev kind item qty dv sq).1 = 0) (hk : kind ≤ 5) {n u r : Int × List Int × List aA}
  (hn : cH xs l dev kind item qty dv sq = n) (hu : cH n.2.1 n.2.2 dev 7 ⟨#[]⟩ 0 0 0 = u) (hr : cH u.2.1 u.2.2 dev 8 ⟨#[]⟩ 0 0 0 = r) :
  (0 ≤ dev ∧ dev ≤ 3) ∧ aD n.2.1 n.2.2 = true ∧ u.1 = 0 ∧ aD u.2.1 u.2.2 = true ∧ gH u.2.1 u.2.2 = gH xs l ∧ (rG u.2.1 u.2.2 dev = n.2.1.getD dev.toNat 0 → r.1 = 0 ∧ gH r.2.1 r.2.2 = gH n.2.1 n.2.2) := by
 obtain ⟨hc, gJ, _, _, ht⟩ := aEW h0 hk
 rw [hn] at ht
 obtain ⟨d, rfl⟩ : ∃ d : Nat, dev = (d : Int) := ⟨dev.toNat, by omega⟩
 have hd : d < 4 := by omega
 have cM : aD n.2.1 n.2.2 = true := ht.cart hc hd
 obtain ⟨hok, cJ, he⟩ := ht
 have hi := aCw cJ
 generalize hO : (oneOf (aO item l l.length) (bW l item) kind item qty).1 = o at hok he hi
 change (aN xs l d o).ok = true at hok
 change n = (0, dF xs d, bN l d (aN xs l d o)) at he
 have hun := aDK hc hd hok hi.2.1
 have ha := put_eq l d (aN xs l d o)
 have hp := aEd (l := l) (d := d) (o := aN xs l d o)
 have hv := E2 (xs := xs) (d := d) (e := d) (eP hc).1 hd
 rw [if_pos rfl] at hv
 rw [he] at hu cM ⊢
 change cH (dF xs d) (bN l d (aN xs l d o)) (d : Int) 7 ⟨#[]⟩ 0 0 0 = u at hu
 change aD (dF xs d) (bN l d (aN xs l d o)) = true at cM
 have hz : (aN xs l d o).undos = 0 := hi.2.1
 rw [R1 cM hd (.inl ⟨rfl, hun.symm⟩), aFU cM hp (by rw [ha]; rfl) (by rw [ha]; rfl) (by rw [ha, hz]; decide), if_pos rfl] at hu
 have hcu := uR cM hp (by rw [ha, hz]; decide)
 have htt := fun j => aFQ hp j
 have yU : aB (dI (bN l d (aN xs l d o)) (putAt (d : Int) l)) (putAt (d : Int) l) = eV (aN xs l d o) := by rw [aEc]; exact put_eq l d _
 have S6 : putAt (d : Int) l < (dI (bN l d (aN xs l d o)) (putAt (d : Int) l)).length := by rw [jY]; exact hp
 have hzo : (eV (aN xs l d o)).undos = 1 := by show (aN xs l d o).undos + 1 = 1; rw [hz]; rfl
 subst hu
 refine ⟨gJ, cM, rfl, hcu, ?_, ?_⟩
 ·show gH (dF xs d) (dI (bN l d (aN xs l d o)) (putAt (d : Int) l)) = gH xs l
  have aLs := hcu; rw [aEc] at aLs ⊢; have bJ : ¬ (eV (aN xs l d o)).undos % 2 = 0 := by rw [hzo]; decide
  refine aBH hc aLs (fun x => by rw [aKd fun q => bJ q.2]) fun x _ => ?_
  unfold iX; rw [t6 fun q => bJ q.2.2, t6 fun q => bJ q.2.2]
 ·intro hrd
  change rG (dF xs d) (dI (bN l d (aN xs l d o)) (putAt (d : Int) l)) (d : Int) = (dF xs d).getD d 0 at hrd
  unfold rG at hrd; rw [if_pos ⟨hcu, uP gJ.1 gJ.2⟩] at hrd
  change jH (dF xs d) d _ = _ at hrd
  change cH (dF xs d) (dI (bN l d (aN xs l d o)) (putAt (d : Int) l)) (d : Int) 8 ⟨#[]⟩ 0 0 0 = r at hr
  rw [R1 hcu hd (.inr ⟨rfl, hrd.symm⟩), aFU hcu S6 (by rw [yU]; rfl) (by rw [yU, hv]; rfl) (by rw [yU, hzo]; decide), if_pos rfl] at hr
  subst hr; have jN := uR hcu S6 (by rw [yU, hzo]; decide)
  exact ⟨rfl, aDT cM jN (by rw [jY, jY]) htt⟩
theorem aFS {xs : List Int} {l : List aA} (h : aD xs l = true) {o : aA} (ho : o ∈ l) : iI l o = false := by
 have hs := aHk h
 rw [X4 (by rw [h]; rfl), List.filter_eq_nil_iff] at hs
 have := hs o ho
 cases hb : iI l o
 ·rfl
 ·exact absurd hb this
theorem aAb {l : List aA} {i : Nat} (hi : i < l.length) : ∃ A B, l = A ++ (aB l i :: B) ∧ dI l i = A ++ (eV (aB l i) :: B) := by
 refine ⟨l.take i, l.drop (i + 1), ?_, ?_⟩
 ·have e : l.drop i = aB l i :: l.drop (i + 1) := by
   rw [List.drop_eq_getElem_cons hi]; unfold aB; rw [List.getD_eq_getElem?_getD, List.getElem?_eq_getElem hi]
   rfl
  rw [← e, List.take_append_drop]
 ·unfold dI
  rw [List.set_eq_take_append_cons_drop, if_pos hi]
theorem aJE {xs : List Int} {l : List aA} (h : aD xs l = true) {i : Nat} (hi : i < l.length) (hu : (aB l i).undos ≠ 50) : O6 xs l xs (dI l i) = [eV (aB l i)] := by
 have h2 := uR h hi hu
 rw [X4 (by rw [h, h2]; rfl)]
 have hm : ∀ o, o ∈ l → iI l o = false := fun o ho => aFS h ho
 have hmi : aB l i ∈ l := aB2 hi
 have h1 : iI l (eV (aB l i)) = true := aCh.2 ⟨_, hmi, rfl, by
  unfold oY
  show (decide ((aB l i).undos % 2 = 0) != decide (((aB l i).undos + 1) % 2 = 0)) = true
  by_cases q : (aB l i).undos % 2 = 0
  ·rw [decide_eq_true q, decide_eq_false (by omega)]; rfl
  ·rw [decide_eq_false q, decide_eq_true (by omega)]; rfl⟩
 obtain ⟨A, B, e1, e2⟩ := aAb hi
 rw [e2, List.filter_append, List.filter_cons_of_pos h1, List.filter_eq_nil_iff.2 fun o ho => by rw [hm o (by rw [e1]; exact List.mem_append_left _ ho)]; decide, List.filter_eq_nil_iff.2 fun o ho => by rw [hm o (by rw [e1]; exact List.mem_append_right _ (List.mem_cons_of_mem _ ho))]; decide]
 rfl
theorem aBz {l : List aA} {dev seq : Int} (h : nameAt l dev seq < l.length) : (aB l (nameAt l dev seq)).dev = dev ∧ (aB l (nameAt l dev seq)).seq = seq := by
 have hp := of_decide_eq_true (List.findIdx_getElem (w := h))
 have e : aB l (nameAt l dev seq) = l[nameAt l dev seq] := by unfold aB; rw [List.getD_eq_getElem?_getD, List.getElem?_eq_getElem h]; rfl
 rw [e]
 exact hp
theorem A1 {xs : List Int} {l : List aA} {dev kind : Int} (hk : kind = 7 ∨ kind = 8) (h1 : (cH xs l dev kind ⟨#[]⟩ 0 0 0).1 ≠ 1) : aD xs l = true ∧ (0 ≤ dev ∧ dev ≤ 3) ∧ ∃ s, ((kind = 7 ∧ s = bV dev l l.length) ∨ (kind = 8 ∧ s = jH xs dev.toNat l)) ∧ cH xs l dev kind ⟨#[]⟩ 0 0 0 = if (eF xs l dev s).1 = 0 then eF xs l dev s else ((eF xs l dev s).1, xs, l) := by
 have hok : aD xs l = true ∧ cO dev 0 3 = true ∧ fW kind ⟨#[]⟩ 0 0 0 = true := by
  unfold cH at h1
  split at h1
  ·rename_i h; exact h
  ·exact absurd rfl h1
 have hd := eR.1 hok.2.1
 obtain ⟨d, rfl⟩ : ∃ d : Nat, dev = (d : Int) := ⟨dev.toNat, by omega⟩
 have yQ : d < 4 := by omega
 refine ⟨hok.1, hd, if kind = 7 then bV (d : Int) l l.length else jH xs d l, ?_, ?_⟩
 ·rcases hk with rfl | rfl
  ·exact .inl ⟨rfl, rfl⟩
  ·exact .inr ⟨rfl, rfl⟩
 ·refine R1 hok.1 yQ ?_
  rcases hk with rfl | rfl
  ·exact .inl ⟨rfl, rfl⟩
  ·exact .inr ⟨rfl, rfl⟩
theorem aCj {xs : List Int} {l : List aA} {dev s : Int} (h : (eF xs l dev s).1 = 0) : nameAt l dev s < l.length ∧ (aB l (nameAt l dev s)).undos ≠ 50 ∧ eF xs l dev s = (0, xs, dI l (nameAt l dev s)) := by
 unfold eF at h ⊢
 split at h
 ·rename_i h1
  rw [if_pos h1]
  split at h
  ·cases h
  ·rename_i h2
   exact ⟨h1, h2, by rw [if_neg h2]⟩
 ·cases h
theorem aHj {xs : List Int} {l : List aA} {dev kind : Int} {n : Int × List Int × List aA} (hk : kind = 7 ∨ kind = 8) (hn : cH xs l dev kind ⟨#[]⟩ 0 0 0 = n) (h0 : n.1 = 0) : ∃ o : aA, aD xs l = true ∧ aD n.2.1 n.2.2 = true ∧ O6 xs l n.2.1 n.2.2 = [o] ∧ o.dev = dev ∧ o.ok = true ∧ oY o = decide (kind = 8) := by
 obtain ⟨hc, hd, s, hs, he⟩ := A1 (xs := xs) (l := l) (dev := dev) hk (by rw [hn, h0]; decide)
 rw [hn] at he
 have ht : (eF xs l dev s).1 = 0 := by
  split at he
  ·rename_i h; exact h
  ·rename_i h
   rw [he] at h0; exact absurd h0 h
 rw [if_pos ht] at he
 obtain ⟨hi, hu, ht2⟩ := aCj ht
 rw [ht2] at he
 obtain ⟨hp1, S6⟩ := aBz hi
 have kM := uR hc hi hu
 subst he
 generalize nameAt l dev s = i at *
 have yU : aB (dI l i) i = if i = i then eV (aB l i) else aB l i := gZ hi
 rw [if_pos rfl] at yU
 refine ⟨eV (aB l i), hc, kM, aJE hc hi hu, hp1, ?_, ?_⟩
 ·have := eT kM (i := i) (by show i < (dI l i).length; rw [jY]; exact hi)
  rw [yU] at this; exact this
 ·have hsp := vB hc dev l.length aPw
  have aE2 := (aCx (eT hc hi)).1
  show decide (((aB l i).undos + 1) % 2 = 0) = decide (kind = 8)
  rcases hs with ⟨rfl, rfl⟩ | ⟨rfl, rfl⟩
  ·have := hsp.2 i hi hp1 S6
   rw [decide_eq_false (by omega), decide_eq_false (by decide)]
  ·have h3 : ¬ (aB l i).undos % 2 = 0 := fun h4 => by
    have h5 := hsp.1 i hi hp1 h4; obtain ⟨d, rfl⟩ : ∃ d : Nat, dev = (d : Int) := ⟨dev.toNat, by omega⟩
    have e : jH xs (d : Int).toNat l = jH xs d l := rfl; rw [e] at S6; unfold jH at S6
    split at S6 <;> omega
   rw [decide_eq_true (by omega), decide_eq_true rfl]
theorem aEE {xs : List Int} {l : List aA} {dev : Int} {n : Int × List Int × List aA} (hn : cH xs l dev 7 ⟨#[]⟩ 0 0 0 = n) : n.1 = 0 ∨ n.1 = 1 ∨ n.1 = 2 ∨ n.1 = 4 := by
 by_cases h1 : n.1 = 1
 ·exact .inr (.inl h1)
 ·obtain ⟨_, _, s, _, he⟩ := A1 (xs := xs) (l := l) (dev := dev) (kind := 7) (.inl rfl) (by rw [hn]; exact h1)
  rw [hn] at he; have hc : n.1 = (eF xs l dev s).1 := by rw [he]; split <;> rfl
  rw [hc]; unfold eF
  split
  ·split
   ·exact .inr (.inr (.inr rfl))
   ·exact .inl rfl
  ·exact .inr (.inr (.inl rfl))
def sX (dev : Int) (l : List aA) : Nat := (l.filter fun o => decide (o.dev = dev ∧ o.undos % 2 = 0)).length
theorem aHM {xs : List Int} {l : List aA} (hc : aD xs l = true) {dev : Int} (hd : 0 ≤ dev ∧ dev ≤ 3) : sX dev l ≤ 40 := by
 obtain ⟨d, rfl⟩ : ∃ d : Nat, dev = (d : Int) := ⟨dev.toNat, by omega⟩
 have h1 := (aAm hc (d := d) (by omega)).1
 have h2 := (eP hc).2 d (by omega)
 have h3 : sX (d : Int) l ≤ (gG xs l (d : Int)).length := by
  unfold sX gG; rw [if_pos hc]; have e : (l.filter fun o => decide (o.dev = (d : Int) ∧ o.undos % 2 = 0)) = (l.filter (oX (d : Int))).filter fun o => decide (o.undos % 2 = 0) := by
   rw [List.filter_filter]
   congr 1
   funext o
   unfold oX
   by_cases a : o.dev = (d : Int) <;> by_cases b : o.undos % 2 = 0 <;> simp [a, b]
  rw [e]; exact List.length_filter_le _ _
 omega
theorem aEF {xs : List Int} {l : List aA} {dev : Int} {n : Int × List Int × List aA} (hn : cH xs l dev 7 ⟨#[]⟩ 0 0 0 = n) (h0 : n.1 = 0) : aD n.2.1 n.2.2 = true ∧ (0 ≤ dev ∧ dev ≤ 3) ∧ aD xs l = true ∧ sX dev n.2.2 + 1 = sX dev l := by
 obtain ⟨hc, hd, s, hs, he⟩ := A1 (xs := xs) (l := l) (dev := dev) (kind := 7) (.inl rfl) (by rw [hn, h0]; decide)
 rw [hn] at he
 have ht : (eF xs l dev s).1 = 0 := by
  split at he
  ·rename_i h; exact h
  ·rename_i h
   rw [he] at h0; exact absurd h0 h
 rw [if_pos ht] at he
 obtain ⟨hi, hu, ht2⟩ := aCj ht
 rw [ht2] at he
 obtain ⟨hp1, S6⟩ := aBz hi
 have kM := uR hc hi hu
 subst he
 refine ⟨kM, hd, hc, ?_⟩
 have dS : s = bV dev l l.length := by
  rcases hs with ⟨_, h⟩ | ⟨h, _⟩
  ·exact h
  ·exact absurd h (by decide)
 have hlv := (vB hc dev l.length aPw).2 _ hi hp1 (by rw [S6, dS])
 show sX dev (dI l (nameAt l dev s)) + 1 = sX dev l
 generalize nameAt l dev s = i at *
 obtain ⟨A, B, e1, e2⟩ := aAb hi
 unfold sX
 rw [e2]
 conv => rhs; rw [e1]
 have p1 : (aB l i :: B).filter (fun o => decide (o.dev = dev ∧ o.undos % 2 = 0)) = aB l i :: B.filter (fun o => decide (o.dev = dev ∧ o.undos % 2 = 0)) := List.filter_cons_of_pos (decide_eq_true ⟨hp1, hlv⟩)
 have p2 : (eV (aB l i) :: B).filter (fun o => decide (o.dev = dev ∧ o.undos % 2 = 0)) = B.filter (fun o => decide (o.dev = dev ∧ o.undos % 2 = 0)) := List.filter_cons_of_neg (by
  intro q
  have := (of_decide_eq_true q).2; have e : (eV (aB l i)).undos = (aB l i).undos + 1 := rfl; rw [e] at this; omega)
 rw [List.filter_append, List.filter_append, p1, p2, List.length_append, List.length_append, List.length_cons]
 omega
theorem aFM {xs : List Int} {l : List aA} {dev : Int} {n : Int × List Int × List aA} (hn : cH xs l dev 7 ⟨#[]⟩ 0 0 0 = n) (h2 : n.1 = 2) : aD xs l = true ∧ oW xs l dev = 0 ∧ ∀ i, i < (gG xs l dev).length → (aB (gG xs l dev) i).ok = true ∧ ¬ (aB (gG xs l dev) i).undos % 2 = 0 := by
 obtain ⟨hc, hd, s, hs, he⟩ := A1 (xs := xs) (l := l) (dev := dev) (kind := 7) (.inl rfl) (by rw [hn, h2]; decide)
 rw [hn] at he
 have dS : s = bV dev l l.length := by
  rcases hs with ⟨_, h⟩ | ⟨h, _⟩
  ·exact h
  ·exact absurd h (by decide)
 subst dS
 have ht : ¬ nameAt l dev (bV dev l l.length) < l.length := fun aK => by
  split at he
  ·rename_i h
   rw [he, h] at h2; exact absurd h2 (by decide)
  ·rw [he] at h2
   have h2 : (eF xs l dev (bV dev l l.length)).1 = 2 := h2; unfold eF at h2; rw [if_pos aK] at h2
   split at h2
   ·exact absurd (show (4 : Int) = 2 from h2) (by decide)
   ·exact absurd (show (0 : Int) = 2 from h2) (by decide)
 have hz : bV dev l l.length = 0 := by
  rcases rT dev l l.length with h | ⟨j, hj, h3, h4⟩
  ·exact h
  ·rw [E4 hc hj h3 h4.symm] at ht
   exact absurd hj ht
 have hu : oW xs l dev = 0 := by
  unfold oW; rw [if_pos ⟨hc, uP hd.1 hd.2⟩]; exact hz
 refine ⟨hc, hu, fun i hi => ?_⟩
 obtain ⟨d, rfl⟩ : ∃ d : Nat, dev = (d : Int) := ⟨dev.toNat, by omega⟩
 have h3 := (aAm hc (d := d) (by omega)).2 i hi
 exact ⟨h3.1, h3.2.1 (by rw [hu]; have := (aCx h3.1).1; omega)⟩
end Go.Proofs.YthkagbnpcjidfaaGreatDoor
