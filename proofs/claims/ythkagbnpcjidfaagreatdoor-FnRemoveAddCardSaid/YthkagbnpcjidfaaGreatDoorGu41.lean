/- Walks and mathematics that several claims share, part 41. -/
import Derived.Test.YthkagbnpcjidfaaGreatDoorGu28
import Derived.Test.YthkagbnpcjidfaaGreatDoorGu40
import Derived.Deep.Cut
import Derived.Lib.Hide
namespace Go.Proofs.YthkagbnpcjidfaaGreatDoor
set_option maxRecDepth 100000
open Go.RowKit
set_option linter.unusedVariables false
set_option linter.unusedSimpArgs false
theorem aFg {xs : List Int} {l : List aA} (h : aE xs l = false) (dev kind : Int) (item : ByteArray) (qty dv sq : Int) : dI xs l dev kind item qty dv sq = (1, [], []) := by
 unfold dI
 rw [if_neg]
 rintro ⟨h1, _⟩
 rw [h] at h1
 cases h1
theorem lV (w : World) (B : Nat) (E : Int → Addr) (hE : eG w B E) (av ao : Option Addr) (nv cv no co : Nat) (xs : List Int) (l : List aA) (dev kind qty dv sq : Int) (item : ByteArray) (hx : Ints w B av nv xs) (h : bP w B ao no l) (hB : B ≤ w.heap.size) (bW : nv ≤ cv) (cB : bM ao no co) (hv : nv ≤ 1048576) (hn : no ≤ 1048576) (hi : item.size ≤ 1048576) :
  Calls Tryz.prog 17 #[.agg #[.slice av nv cv, .slice ao no co], .int .i64 dev, .agg #[.int .i64 kind, .string item, .int .i64 qty, .int .i64 dv, .int .i64 sq]] w (wK (dI xs l dev kind item qty dv sq) w) := by
 cases hc : aE xs l
 ·rw [aFg hc]
  exact aCY w B E hE av ao nv cv no co xs l dev kind qty dv sq item hx h hB hv cB.1 ⟨hn, cB.2.1⟩ hc
 ·obtain rfl : nv = 4 := by rw [← hx.1]; exact (iH hc).1
  obtain ⟨g, off, e, _⟩ := hx.2 0 (by omega)
  subst e; exact aGY w B E hE g off ao cv no co xs l dev kind qty dv sq item hx h hB bW cB hn hi
theorem aBY {d : Nat} (hd : d < 4) : ∀ (U : List ByteArray) (zs : List Int) (m : List aA), aE zs m = true → (rI d U zs m).1 = 0 → aE (rI d U zs m).2.1 (rI d U zs m).2.2 = true
 | [], zs, m, h, _ => h
 | s :: U, zs, m, h, h0 => by
  unfold rI at h0 ⊢
  split at h0
  ·rename_i h1
   rw [if_pos h1]; exact aBY hd U _ _ (Q2 h hd h1) h0
  ·rename_i h1
   exact absurd h0 h1
theorem P2 {xs : List Int} {l : List aA} (h : aE xs l = true) {dev s : Int} (h0 : (kW xs l dev s).1 = 0) : aE (kW xs l dev s).2.1 (kW xs l dev s).2.2 = true := by
 unfold kW at h0 ⊢
 split at h0
 ·rename_i h1
  rw [if_pos h1]
  split at h0
  ·cases h0
  ·rename_i h2
   rw [if_neg h2]; exact aIR h h1 h2
 ·cases h0
theorem aHi {xs : List Int} {l : List aA} (h : aE xs l = true) {d : Nat} (hd : d < 4) (h0 : (qK xs l d).1 = 0) : aE (qK xs l d).2.1 (qK xs l d).2.2 = true := by
 rw [p9 h hd] at h0 ⊢
 split at h0
 ·cases h0
 ·rename_i h1
  rw [if_neg h1]; exact aBY hd _ _ _ h h0
theorem aH2 {xs : List Int} {l : List aA} (h : aE xs l = true) {d : Nat} (hd : d < 4) {kind : Int} {item : ByteArray} {qty dv sq : Int} (h0 : (jE xs l d kind item qty dv sq).1 = 0) : aE (jE xs l d kind item qty dv sq).2.1 (jE xs l d kind item qty dv sq).2.2 = true := by
 unfold jE at h0 ⊢
 split at h0
 ·rename_i h1
  rw [if_pos h1]; exact aHi h hd h0
 ·rename_i h1
  rw [if_neg h1]
  split at h0
  ·rename_i h1
   rw [if_pos h1]; exact P2 h h0
  ·rename_i h1
   rw [if_neg h1]
   split at h0
   ·rename_i h1
    rw [if_pos h1]; exact P2 h h0
   ·rename_i h1
    rw [if_neg h1]
    split at h0
    ·rename_i h1
     rw [if_pos h1]; exact P2 h h0
    ·rename_i h1
     rw [if_neg h1]; exact Q2 h hd h0
theorem Z2 (xs : List Int) (l : List aA) (dev kind : Int) (item : ByteArray) (qty dv sq : Int) : dI xs l dev kind item qty dv sq = (1, [], []) ∨ aE (dI xs l dev kind item qty dv sq).2.1 (dI xs l dev kind item qty dv sq).2.2 = true := by
 unfold dI
 split
 ·rename_i hok
  right
  have jI := hok.2.1; unfold cV at jI; have hd := of_decide_eq_true jI
  split
  ·rename_i h0
   exact aH2 hok.1 (by omega) h0
  ·exact hok.1
 ·exact .inl rfl
theorem eG.kept {w w' : World} {B : Nat} {E : Int → Addr} (h : eG w B E) (hk : ∀ j, j < B → w'.heap[j]? = w.heap[j]?) : eG w' B E := by
 have hl := h.low
 refine ⟨h.low, fun c h1 h2 => ?_, fun c h1 h2 => ?_, h.ne, ?_⟩
 ·have := aG8 c
  exact (World.cell?_of_block (a := ⟨gOf c, 0, none⟩) (hk _ (by show gOf c < B; omega))).trans (h.cells c h1 h2)
 ·obtain ⟨a, ca, ta, hc⟩ := h.lies c h1 h2
  exact ⟨a, ca, ta, (hk _ (by omega)).trans hc⟩
 ·exact (World.cell?_of_block (a := ⟨1, 0, none⟩) (hk _ (by show 1 < B; omega))).trans h.typ
theorem aEl {zs : List Int} {m : List aA} (h : aE zs m = true) : sE zs m 160 :=
 ⟨(iH h).1, fun d hd => ⟨((iH h).2 d hd).1, by have := ((iH h).2 d hd).2; omega⟩, fun i hi => by have := (dK (eU h hi)).2.2.2.1; omega, fun i hi => (dK (eU h hi)).2.2.2.2.1, eF h⟩
theorem aGc (w : World) (B : Nat) (av ao : Option Addr) (cv no co : Nat) (xs : List Int) (l : List aA) (kind qty dv sq : Int) (item : ByteArray) (hx : Ints w B av 4 xs) (h : bP w B ao no l) (hB : B ≤ w.heap.size) (bW : bM av 4 cv) (cB : bM ao no co) (hi : item.size ≤ 8) (dev : Int) (hm : ∀ i, i < no → (aC l i).item.size ≤ 1048576) (hn : no ≤ 1048576) :
  Calls Tryz.prog 18 #[.agg #[.slice av 4 cv, .slice ao no co], .int .i64 dev, .agg #[.int .i64 kind, .string item, .int .i64 qty, .int .i64 dv, .int .i64 sq]] w (aI1 320 w) := by
 obtain ⟨⟨c, zs, m⟩, hr⟩ : ∃ r, dI xs l dev kind item qty dv sq = r := ⟨_, rfl⟩
 refine (aE0 w B av ao cv no co xs l kind qty dv sq item hx h hB bW cB (by omega) dev hm hn hr).mono fun e w' h => h.weak fun h0 => ?_
 have h1 := Z2 xs l dev kind item qty dv sq
 rw [hr] at h1
 rcases h1 with h1 | h1
 ·injection h1 with h2 _
  omega
 ·exact (aEl h1).more (by omega)
theorem aFZ (W : World) : (Instr.makeSlice 24 (.int .i64 4) (.int .i64 4)).run Tryz.prog W = .ok (.slice (some ⟨W.heap.size, 0, none⟩) 4 4) (W.alloc (.cells #[.int .i64 0, .int .i64 0, .int .i64 0, .int .i64 0] 2)) := by
 obtain ⟨i0, hi, gK, jV, iS⟩ := info_parts Tryz.infoI64
 have h := run_make (P := Tryz.prog) W 24 2 i0 (.int .i64 0) Tryz.underlying24 hi gK .i64 .i64 4 4 (by omega) (by omega) (by rw [iS]; omega) (by omega)
 rw [jV] at h
 have e : madeCells (Value.int .i64 0).cells (Int.toNat 4 * 1) = #[.int .i64 0, .int .i64 0, .int .i64 0, .int .i64 0] := by kernel_rfl
 rw [e] at h
 exact h
theorem aLe (w : World) : Calls Tryz.prog 130 #[] w fun e w' => ∃ g, e = .returned (.slice (some ⟨g, 0, none⟩) 4 4) ∧ Own w' w.heap.size w'.heap.size (some ⟨g, 0, none⟩) 4 [0, 0, 0, 0] ∧ Below w.heap.size w w' := by
 have hm := aFZ
 go_enter Tryz.func130, Tryz.ntmps130
 go_wp2
 go_ret
 exact ⟨_, rfl, aGp (xs := [0, 0, 0, 0]) (heap_alloc_new _ _) (by show _ < (w.heap.push _).size; simp), bl⟩
theorem aD7 (w : World) : Calls Tryz.prog 104 #[] w fun e w' => ∃ g, e = .returned (.agg #[.slice (some ⟨g, 0, none⟩) 4 4, .slice none 0 0]) ∧ fR w' w.heap.size w'.heap.size (some ⟨g, 0, none⟩) 4 none 0 0 400 ∧ Below w.heap.size w w' := by
 go_enter Tryz.func104, Tryz.ntmps104
 go_wp2_with fail
 refine (aLe _).mono ?_
 rintro e w1 ⟨g, rfl, ho, hb⟩
 have hx := bX hb
 have HB := aPo (iI hb)
 obtain ⟨c0, c1⟩ := pair_cells hx
 obtain ⟨f0, f1⟩ := aB hx
 have HX := aPo (cE (.slice (some ⟨g, 0, none⟩) 4 4) (.slice none 0 0) hx)
 have HO : Hid (Own ((w1.setCell ⟨w.heap.size, 0, none⟩ (.slice (some ⟨g, 0, none⟩) 4 4)).setCell ⟨w.heap.size, 1, none⟩ (.slice none 0 0)) w.heap.size w1.heap.size (some ⟨g, 0, none⟩) 4 [0, 0, 0, 0]) := (Own.kept ho fun j h1 h2 => aD _ _ (by have : w.heap.size < (w.alloc (.cells #[.slice none 0 0, .slice none 0 0] 27)).heap.size := by { show _ < (w.heap.push _).size; simp }; omega)).more (by show _ ≤ (w.heap.push _).size; simp) aPq
 have bQ := aPo ((HB.out.setCell (p := ⟨w.heap.size, 0, none⟩) aPq (.slice (some ⟨g, 0, none⟩) 4 4)).setCell (p := ⟨w.heap.size, 1, none⟩) aPq (.slice none 0 0))
 have dC := aPo (aY w1 w.heap.size (.slice (some ⟨g, 0, none⟩) 4 4) (.slice none 0 0))
 clear hx hb ho
 go_wp2
 generalize (w1.setCell ⟨w.heap.size, 0, none⟩ (.slice (some ⟨g, 0, none⟩) 4 4)).setCell ⟨w.heap.size, 1, none⟩ (.slice none 0 0) = wf at HX HO bQ dC ⊢
 obtain ⟨d0, d1⟩ := pair_cells HX.out
 refine bodyPost_ret (v := .agg #[.slice (some ⟨g, 0, none⟩) 4 4, .slice none 0 0]) (by simp [results, Tryz.results104, go_sem, d0, d1]) rfl ⟨g, rfl, ⟨[0, 0, 0, 0], [], rfl, HO.out.more aPq (Nat.le_of_eq dC.out.symm), fH _ _ _ _, ⟨Nat.le_refl _, by unfold D4 maxLen; omega, fun h => by cases h⟩, cN, ?_⟩, bQ.out⟩
 refine ⟨rfl, fun d hd => ?_, fun i hi => absurd hi (by simp), fun i hi => absurd hi (by simp), Nat.zero_le _⟩
 match d, hd with
 | 0, _ => exact ⟨Int.le_refl _, by show (0 : Int) ≤ 1000; omega⟩
 | 1, _ => exact ⟨Int.le_refl _, by show (0 : Int) ≤ 1000; omega⟩
 | 2, _ => exact ⟨Int.le_refl _, by show (0 : Int) ≤ 1000; omega⟩
 | 3, _ => exact ⟨Int.le_refl _, by show (0 : Int) ≤ 1000; omega⟩
structure cC where
 va : Option Addr
 vc : Nat
 oa : Option Addr
 no : Nat
 oc : Nat
def cC.zero : cC := ⟨none, 0, none, 0, 0⟩
def K4 (x : cC) : List Value := [.slice x.va 4 x.vc, .slice x.oa x.no x.oc]
def aH (l : List cC) (i : Nat) : cC := l.getD i cC.zero
def vF : List cC → List Value
 | [] => []
 | x :: l => K4 x ++ vF l
theorem aAt (x : cC) : ∀ l, vF (l ++ [x]) = vF l ++ K4 x
 | [] => rfl
 | q :: l => by show K4 q ++ vF (l ++ [x]) = (K4 q ++ vF l) ++ K4 x; rw [aAt x l, List.append_assoc]
theorem aDd : ∀ (l : List cC) (i : Nat), i < l.length → (vF l)[i * 2]? = some (.slice (aH l i).va 4 (aH l i).vc) ∧ (vF l)[i * 2 + 1]? = some (.slice (aH l i).oa (aH l i).no (aH l i).oc)
 | x :: l, 0, _ => ⟨rfl, rfl⟩
 | x :: l, i + 1, h => by
  have := aDd l i (by simpa using h)
  have e : (i + 1) * 2 = i * 2 + 2 := by omega
  rw [e]; exact this
theorem aKw {l : List cC} {x : cC} {i : Nat} (h : i < l.length) : aH (l ++ [x]) i = aH l i := by
 unfold aH; rw [List.getD_eq_getElem?_getD, List.getD_eq_getElem?_getD, List.getElem?_append_left h]
theorem aKx (l : List cC) (x : cC) : aH (l ++ [x]) l.length = x := by
 unfold aH; simp
theorem aEN {l : List cC} {x : cC} {i k : Nat} (hk : k < l.length) : aH (l.set k x) i = if k = i then x else aH l i := by
 unfold aH; exact jZ hk
def tL (w : World) (lo hi : Nat) (x : cC) : Prop := fR w lo hi x.va x.vc x.oa x.no x.oc 400
theorem fR.other {w w' : World} {lo hi q N : Nat} {va oa : Option Addr} {vc no oc : Nat} {cs : Array Value} {fr : Nat × Nat} (h : fR w lo hi va vc oa no oc N) (hq : w.heap[q]? = some (.cells cs 27 fr)) (hk : ∀ j, lo ≤ j → j < hi → j ≠ q → w'.heap[j]? = w.heap[j]?) : fR w' lo hi va vc oa no oc N := by
 obtain ⟨zs, m, e, a, b, c, d, f⟩ := h
 refine ⟨zs, m, e, ⟨a.1, fun hn => ?_⟩, ⟨b.1, fun hn => ?_⟩, c, d, f⟩
 ·obtain ⟨g, aW, e1, h1, h2, hg, hc⟩ := a.2 hn
  have bO : g ≠ q := by
   intro e2
   rw [e2, hq] at hg; injection hg with hg; injection hg with _ hg; exact absurd hg (by decide)
  exact ⟨g, aW, e1, h1, h2, (hk g h1 h2 bO).trans hg, hc⟩
 ·obtain ⟨g, off, aW, e1, h1, h2, hg, hs, hc⟩ := b.2 hn
  have bO : g ≠ q := by
   intro e2
   rw [e2, hq] at hg; injection hg with hg; injection hg with _ hg; exact absurd hg (by decide)
  exact ⟨g, off, aW, e1, h1, h2, (hk g h1 h2 bO).trans hg, hs, hc⟩
theorem aGU : (Tryz.prog.info? 27).map (fun i => (i.zero, i.size, i.bytes)) = some (some (.agg #[.slice none 0 0, .slice none 0 0]), 2, 48) := by kernel_rfl
structure E4 (w : World) (base : Nat) (v : Value) (l : List cC) : Prop where
 row : w.ownsRow base 27 2 v l.length (vF l)
 crt : ∀ i, i < l.length → tL w base w.heap.size (aH l i)
theorem E4.below {w w' : World} {base : Nat} {v : Value} {l : List cC} (h : E4 w base v l) (hb : Below w.heap.size w w') : E4 w' base v l :=
 ⟨h.row.kept (row := none) ⟨hb.os, hb.tape, hb.output, hb.size, fun j hj _ => hb.block j hj⟩ (by rcases v.ownBlock with _ | q; exact .inl rfl; exact .inr (fun e => by cases e)), fun i hi => (fR.below (h.crt i hi) hb aPq).more aPq hb.size aPq⟩
theorem E4.push {z0 : World} {base : Nat} {v : Value} {l : List cC} (h : E4 z0 base v l) (gQ : base ≤ z0.heap.size) (hl : l.length ≤ 100) (x : cC) (hx : tL z0 base z0.heap.size x) :
  ∃ va vc z3, (Builtin.append_ #[111, 111] 111 #[v, .slice (some ⟨z0.heap.size, 0, none⟩) 1 1]).run Tryz.prog (z0.alloc (.cells #[.slice x.va 4 x.vc, .slice x.oa x.no x.oc] 27)) = .ok (.slice va (l.length + 1) vc) z3 ∧ E4 z3 base (.slice va (l.length + 1) vc) (l ++ [x]) ∧ Below base z0 z3 := by
 obtain ⟨i0, hi, gK, jV, iS⟩ := info_parts aGU
 have aKW := h.row.alloc (.cells #[.slice x.va 4 x.vc, .slice x.oa x.no x.oc] 27)
 obtain ⟨v', z3, hrun, aU, iF, _⟩ := run_append_own (P := Tryz.prog) (z0.alloc (.cells #[.slice x.va 4 x.vc, .slice x.oa x.no x.oc] 27)) base 111 111 27 i0 (.agg #[.slice none 0 0, .slice none 0 0]) 2 48 Tryz.underlying111 hi gK jV iS rfl (by decide) v l.length (vF l) aKW ⟨z0.heap.size, 0, none⟩ 1 1 (K4 x) rfl
  (by
   intro j u hj
   have hn := heap_alloc_new z0 (.cells #[.slice x.va 4 x.vc, .slice x.oa x.no x.oc] 27); obtain ⟨p0, p1⟩ := pair_cells hn
   match j, hj with
   | 0, hj => simp [K4] at hj; subst hj; simp only [Addr.add]; exact p0
   | 1, hj => simp [K4] at hj; subst hj; simp only [Addr.add]; exact p1)
  (by intro u hu; simp [K4] at hu; rcases hu with rfl | rfl <;> rfl) (by unfold maxLen; omega) (by omega) (by show _ ≤ (z0.heap.push _).size; simp; omega)
 obtain ⟨va, vc, rfl⟩ : ∃ va vc, v' = .slice va (l.length + 1) vc := by
  rcases aU.2 with ⟨_, e2⟩ | ⟨_, c2, _, e2, _⟩
  ·omega
  ·exact ⟨_, c2, e2⟩
 have kb : ∀ j, j < z0.heap.size → (z0.alloc (.cells #[.slice x.va 4 x.vc, .slice x.oa x.no x.oc] 27)).heap[j]? = z0.heap[j]? := fun j hj => Below.heap_alloc _ _ _ hj
 have hsa : z0.heap.size < (z0.alloc (.cells #[.slice x.va 4 x.vc, .slice x.oa x.no x.oc] 27)).heap.size := by show _ < (z0.heap.push _).size; simp
 have hrl : ∀ j, v.ownBlock = some j → base ≤ j := fun j hj => (aKW.lt j hj).1
 have k3 : ∀ j, j < z0.heap.size → v.ownBlock ≠ some j → z3.heap[j]? = z0.heap[j]? := fun j hj bO => (iF.block j (by omega) (fun e => bO e.symm)).trans (kb j hj)
 have gO := iF.size
 have aLg : ∀ y : cC, tL z0 base z0.heap.size y → tL z3 base z3.heap.size y := fun y hy => by
  refine fR.more ?_ (Nat.le_refl base) (by omega : z0.heap.size ≤ z3.heap.size) (Nat.le_refl 400)
  rcases hv : v.ownBlock with _ | q
  ·exact fR.kept hy fun j _ h2 => k3 j h2 (by rw [hv]; intro e; cases e)
  ·rcases h.row.2 with ⟨e2, _⟩ | ⟨q', cap, cu, e2, _, hq, _⟩
   ·rw [e2] at hv; simp [Value.ownBlock] at hv
   ·rw [e2] at hv
    have e3 : q' = q := by simpa [Value.ownBlock] using hv
    subst e3; refine fR.other hy hq fun j _ h2 bO => k3 j h2 ?_
    rw [e2]
    intro e
    simp [Value.ownBlock] at e
    exact bO e.symm
 have b3 : Below base z0 z3 := ((Below.refl base z0).alloc gQ _).grown iF (by omega) fun q hq => hrl q hq
 refine ⟨va, vc, z3, hrun, ⟨?_, fun i hi' => ?_⟩, b3⟩
 ·rw [aAt, List.length_append]
  exact aU
 ·by_cases e : i = l.length
  ·subst e
   rw [aKx]; exact aLg x hx
  ·have qH : i < l.length := by simp at hi'; omega
   rw [aKw qH]; exact aLg _ (h.crt i qH)
structure aMK (w : World) (base q : Nat) (l : List cC) : Prop where
 lo : base ≤ q
 cells : ∃ cs, w.heap[q]? = some (.cells cs 27 (0, 0)) ∧ ∀ i, i < l.length → cs[i * 2]? = some (.slice (aH l i).va 4 (aH l i).vc) ∧ cs[i * 2 + 1]? = some (.slice (aH l i).oa (aH l i).no (aH l i).oc)
 crt : ∀ i, i < l.length → tL w base w.heap.size (aH l i)
theorem E4.form {w : World} {base : Nat} {v : Value} {l : List cC} (h : E4 w base v l) (hn : 0 < l.length) : ∃ q c, v = .slice (some ⟨q, 0, none⟩) l.length c ∧ aMK w base q l := by
 rcases h.row.2 with ⟨_, e2⟩ | ⟨q, cap, cu, e2, iE, hq, _, _, _, hx⟩
 ·omega
 ·have hat : ∀ (j : Nat) (u : Value), (vF l)[j]? = some u → cu[j]? = some u := fun j u hu => by
   rw [← hx, List.getElem?_take] at hu
   split at hu
   ·simpa using hu
   ·cases hu
  refine ⟨q, cap, e2, iE, ⟨cu, hq, fun i hi => ?_⟩, h.crt⟩
  obtain ⟨c0, c1⟩ := aDd l i hi; exact ⟨hat _ _ c0, hat _ _ c1⟩
theorem d9 {w w' : World} {g : Nat} (h : Below w.heap.size w w') : w.grownBy w' (some g) := ⟨h.os, h.tape, h.output, h.size, fun k hk _ => h.block k hk⟩
theorem jF {xs : List Int} {l : List aA} (hc : aE xs l = true) (x : ByteArray) : x ∈ cF xs l ↔ aI x l l.length % 2 = 1 := by
 unfold cF
 rw [if_pos hc, mP]
 refine ⟨fun h => h.1, fun h => ⟨h, ?_⟩⟩
 obtain ⟨i, hi, e, _⟩ := xD x l l.length (by intro e; rw [e] at h; exact absurd h (by decide))
 exact ⟨i, hi, e⟩
theorem aGH {xs ys : List Int} {l m : List aA} (hc : aE xs l = true) (hd : aE ys m = true) (h1 : ∀ x, aI x m m.length % 2 = 1 ↔ aI x l l.length % 2 = 1) (h2 : ∀ x, aI x l l.length % 2 = 1 → cG m x = cG l x) : aZ ys m = aZ xs l := by
 have e : cF ys m = cF xs l := asc_one (pK ys m) (pK xs l) fun x => by rw [jF hd, jF hc]; exact h1 x
 unfold aZ
 rw [e]
 exact List.map_congr_left fun x hx => h2 x ((jF hc x).1 hx)
def R1 (x : ByteArray) (a : Int) (o : aA) : Int := if o.item = x ∧ o.undos % 2 = 0 then max a o.level else a
theorem aCL (x : ByteArray) (t : Int) : ∀ (l : List aA) (a : Int), l.foldl (R1 x) (max a t) = max (l.foldl (R1 x) a) t
 | [], _ => rfl
 | o :: l, a => by
  rw [List.foldl_cons, List.foldl_cons]; have e : R1 x (max a t) o = max (R1 x a o) t := by unfold R1; split <;> omega
  rw [e]; exact aCL x t l _
theorem P7 (l : List aA) (d : Nat) (o : aA) : ∃ A B, l = A ++ B ∧ cI l d o = A ++ (o :: B) := by
 refine ⟨l.take (putAt (d : Int) l), l.drop (putAt (d : Int) l), (List.take_append_drop _ _).symm, ?_⟩
 unfold cI
 rw [List.append_assoc]
 rfl
theorem aLc {x : ByteArray} {l : List aA} {d : Nat} {o : aA} (h : o.item = x) (hu : o.undos % 2 = 0) : aI x (cI l d o) (cI l d o).length = max (aI x l l.length) o.level := by
 rw [X7, X7]
 obtain ⟨A, B, e1, e2⟩ := P7 l d o
 rw [e2]
 subst e1
 show List.foldl (R1 x) 0 (A ++ (o :: B)) = max (List.foldl (R1 x) 0 (A ++ B)) o.level
 rw [List.foldl_append, List.foldl_append, List.foldl_cons, ← aCL]
 congr 1
 unfold R1
 rw [if_pos ⟨h, hu⟩]
def oB (P : Int → Bool) (x : ByteArray) (b o : aA) : aA := if (P o.kind = true ∧ o.item = x ∧ o.undos % 2 = 0) ∧ (b.kind = 0 ∨ oQ b o = true) then o else b
theorem aAC (P : Int → Bool) (x : ByteArray) : ∀ (l : List aA) (b : aA), l.foldl (oB P x) b = b ∨ l.foldl (oB P x) b ∈ l
 | [], b => .inl rfl
 | o :: l, b => by
  rw [List.foldl_cons]; rcases aAC P x l (oB P x b o) with h | h
  ·rw [h]
   unfold oB
   split
   ·exact .inr (List.mem_cons_self ..)
   ·exact .inl rfl
  ·exact .inr (List.mem_cons_of_mem _ h)
theorem aAB {P : Int → Bool} {x : ByteArray} {o : aA} (hk : o.kind ≠ 0) : ∀ l : List aA, (∀ y, y ∈ l → oQ o y = false) → l.foldl (oB P x) o = o
 | [], _ => rfl
 | y :: l, h => by
  rw [List.foldl_cons]; have e : oB P x o y = o := by
   unfold oB; rw [if_neg]; rintro ⟨_, h1 | h1⟩
   ·exact hk h1
   ·rw [h y (List.mem_cons_self ..)] at h1
    cases h1
  rw [e]; exact aAB hk l fun z hz => h z (List.mem_cons_of_mem _ hz)
theorem aKy {P : Int → Bool} {x : ByteArray} {l : List aA} {d : Nat} {o : aA} (hP : P o.kind = true) (hi : o.item = x) (hu : o.undos % 2 = 0) (hk : o.kind ≠ 0) (h : ∀ y, y ∈ l → oQ y o = true ∧ oQ o y = false) : bE P x (cI l d o) (cI l d o).length = o := by
 rw [zB]
 obtain ⟨A, B, e1, e2⟩ := P7 l d o
 rw [e2]
 subst e1
 show List.foldl (oB P x) aA.zero (A ++ (o :: B)) = o
 rw [List.foldl_append, List.foldl_cons]
 have e : oB P x (List.foldl (oB P x) aA.zero A) o = o := by
  have hb := aAC P x A aA.zero; generalize List.foldl (oB P x) aA.zero A = b at hb; unfold oB; rw [if_pos]; refine ⟨⟨hP, hi, hu⟩, ?_⟩
  rcases hb with rfl | hb
  ·exact .inl rfl
  ·exact .inr (h b (List.mem_append_left _ hb)).1
 rw [e]
 exact aAB hk B fun y hy => (h y (List.mem_append_right _ hy)).2
theorem aIT {P : Int → Bool} {x : ByteArray} {l : List aA} {d : Nat} {o : aA} (h : ¬ (P o.kind = true ∧ o.item = x ∧ o.undos % 2 = 0)) : bE P x (cI l d o) (cI l d o).length = bE P x l l.length := by
 rw [zB, zB]
 obtain ⟨A, B, e1, e2⟩ := P7 l d o
 rw [e2]
 subst e1
 show List.foldl (oB P x) aA.zero (A ++ (o :: B)) = List.foldl (oB P x) aA.zero (A ++ B)
 rw [List.foldl_append, List.foldl_append, List.foldl_cons]
 congr 1
 unfold oB
 rw [if_neg fun q => h q.1]
theorem aGy {xs : List Int} {l : List aA} {d : Nat} {o : aA} : ∀ y, y ∈ l → oQ y (aQ xs l d o) = true ∧ oQ (aQ xs l d o) y = false := fun y hy => by
 obtain ⟨i, hi, e⟩ := List.mem_iff_getElem.1 hy
 have e2 : aC l i = y := by unfold aC; rw [List.getD_eq_getElem?_getD, List.getElem?_eq_getElem hi]; exact e
 have := I0 l l.length i hi
 rw [e2] at this
 have hs : (aQ xs l d o).stamp = cZ l l.length + 1 := rfl
 unfold oQ preB
 rw [hs]
 exact ⟨decide_eq_true (.inl (by omega)), decide_eq_false (by omega)⟩
def Alike (a b : aA) : Prop := a.dev = b.dev ∧ a.seq = b.seq ∧ a.stamp = b.stamp ∧ a.kind = b.kind ∧ a.item = b.item ∧ a.qty = b.qty ∧ a.level = b.level ∧ a.undos % 2 = b.undos % 2
theorem Alike.refl (a : aA) : Alike a a := ⟨rfl, rfl, rfl, rfl, rfl, rfl, rfl, rfl⟩
structure E2 (xs : List Int) (l : List aA) (d : Nat) (kind : Int) (item : ByteArray) (qty : Int) (r : Int × List Int × List aA) : Prop where
 ok : (aQ xs l d (oneOf (aI item l l.length) (bN l item) kind item qty).1).ok = true
 code : (oneOf (aI item l l.length) (bN l item) kind item qty).2 = 0
 eq : r = (0, eE xs d, cI l d (aQ xs l d (oneOf (aI item l l.length) (bN l item) kind item qty).1))
theorem aHL {xs : List Int} {l : List aA} {d : Nat} {kind : Int} {item : ByteArray} {qty : Int} (h : (dL xs l d kind item qty).1 = 0) : E2 xs l d kind item qty (dL xs l d kind item qty) := by
 unfold dL at h ⊢
 dsimp only at h ⊢
 split at h
 ·rename_i h1
  rw [if_pos h1]
  split at h
  ·rename_i h2
   rw [if_pos h2]; exact ⟨h2, h1, rfl⟩
  ·cases h
 ·rename_i h1
  exact absurd h h1
def aOx (l : List aA) (x : ByteArray) (t : Bool) (q : Int) (s : Bool) : Prop := (aI x l l.length % 2 = 1 ↔ t = true) ∧ (t = true → (cG l x).qty = q ∧ (cG l x).saved = s)
theorem aEW {xs : List Int} {l : List aA} {d : Nat} {o : aA} {x : ByteArray} (h : o.item ≠ x) : aI x (cI l d (aQ xs l d o)) (cI l d (aQ xs l d o)).length = aI x l l.length ∧ cG (cI l d (aQ xs l d o)) x = cG l x := by
 have hi : (aQ xs l d o).item ≠ x := h
 refine ⟨aEB hi, ?_⟩
 unfold cG
 rw [aDk hi, aDk hi]
theorem aCy {wN : Int} {sv : Bool} {kind : Int} {item : ByteArray} {qty : Int} (h : (oneOf wN sv kind item qty).2 = 0) : (oneOf wN sv kind item qty).1.item = item ∧ (oneOf wN sv kind item qty).1.undos = 0 ∧ (oneOf wN sv kind item qty).1.kind = kind ∧ 1 ≤ kind ∧ kind ≤ 5 := by
 unfold oneOf at h ⊢
 repeat' split at h
 all_goals first | (exact absurd h (by decide)) | (simp_all)
theorem E2.others {xs : List Int} {l : List aA} {d : Nat} {kind : Int} {item : ByteArray} {qty : Int} {r : Int × List Int × List aA} (h : E2 xs l d kind item qty r) {x : ByteArray} (hx : item ≠ x) : aI x r.2.2 r.2.2.length = aI x l l.length ∧ cG r.2.2 x = cG l x := by
 rw [h.eq]
 exact aEW (by rw [(aCy h.code).1]; exact hx)
theorem E2.item {xs : List Int} {l : List aA} {d : Nat} {kind : Int} {item : ByteArray} {qty : Int} {r : Int × List Int × List aA} (h : E2 xs l d kind item qty r) :
  (kind = 1 → ¬ aI item l l.length % 2 = 1 ∧ aI item r.2.2 r.2.2.length % 2 = 1 ∧ cG r.2.2 item = ⟨item, qty, false⟩) ∧
  (kind = 2 → aI item l l.length % 2 = 1 ∧ aI item r.2.2 r.2.2.length % 2 = 1 ∧ cG r.2.2 item = ⟨item, qty, (cG l item).saved⟩) ∧
  (kind = 3 → aI item l l.length % 2 = 1 ∧ ¬ aI item r.2.2 r.2.2.length % 2 = 1) ∧
  (kind = 4 → aI item l l.length % 2 = 1 ∧ aI item r.2.2 r.2.2.length % 2 = 1 ∧ (cG l item).saved = false ∧ cG r.2.2 item = ⟨item, (cG l item).qty, true⟩) ∧
  (kind = 5 → aI item l l.length % 2 = 1 ∧ aI item r.2.2 r.2.2.length % 2 = 1 ∧ (cG l item).saved = true ∧ cG r.2.2 item = ⟨item, (cG l item).qty, false⟩) := by
 obtain ⟨hok, cO, he⟩ := h
 obtain ⟨hi, hu, hk, _, _⟩ := aCy cO
 have aMV := aGy (xs := xs) (l := l) (d := d) (o := (oneOf (aI item l l.length) (bN l item) kind item qty).1)
 have aOZ := rT item l l.length
 have hsv : (cG l item).saved = bN l item := rfl
 have hr : r.2.2 = cI l d (aQ xs l d (oneOf (aI item l l.length) (bN l item) kind item qty).1) := by rw [he]
 rw [hr, hsv]
 clear he hr hsv
 have L1 := aLc (x := item) (l := l) (d := d) (o := aQ xs l d (oneOf (aI item l l.length) (bN l item) kind item qty).1) hi (by show (oneOf _ _ _ _ _).1.undos % 2 = 0; rw [hu]; rfl)
 have B1 := fun (P : Int → Bool) (hP : P kind = true) => aKy (P := P) (x := item) (l := l) (d := d) (o := aQ xs l d (oneOf (aI item l l.length) (bN l item) kind item qty).1) (by show P (oneOf _ _ _ _ _).1.kind = true; rw [hk]; exact hP) hi (by show (oneOf _ _ _ _ _).1.undos % 2 = 0; rw [hu]; rfl) (by show (oneOf _ _ _ _ _).1.kind ≠ 0; rw [hk]; omega) aMV
 have B0 := fun (P : Int → Bool) (hP : P kind = false) => aIT (P := P) (x := item) (l := l) (d := d) (o := aQ xs l d (oneOf (aI item l l.length) (bN l item) kind item qty).1) (by intro q; have q1 : P (oneOf _ _ _ _ _).1.kind = true := q.1; rw [hk, hP] at q1; cases q1)
 rw [L1]
 have lv : (aQ xs l d (oneOf (aI item l l.length) (bN l item) kind item qty).1).level = (oneOf (aI item l l.length) (bN l item) kind item qty).1.level := rfl
 have hq : (aQ xs l d (oneOf (aI item l l.length) (bN l item) kind item qty).1).qty = (oneOf (aI item l l.length) (bN l item) kind item qty).1.qty := rfl
 have hkd : (aQ xs l d (oneOf (aI item l l.length) (bN l item) kind item qty).1).kind = kind := hk
 rw [lv]
 unfold cG
 generalize aQ xs l d (oneOf (aI item l l.length) (bN l item) kind item qty).1 = o at B1 B0 hq hkd
 refine ⟨?_, ?_, ?_, ?_, ?_⟩
 all_goals
  rintro rfl
 ·rw [B1 tB rfl, B1 gT rfl, hq, hkd]
  unfold oneOf at cO ⊢; rw [if_pos rfl] at cO ⊢
  split at cO
  ·exact absurd cO (by decide)
  ·rename_i h1
   rw [if_neg h1]; refine ⟨h1, ?_, rfl⟩
   show max (aI item l l.length) (aI item l l.length + 1) % 2 = 1
   omega
 ·rw [B1 tB rfl, B0 gT rfl, hq]
  unfold oneOf at cO ⊢; rw [if_neg (by decide)] at cO ⊢
  split at cO
  ·rename_i h1
   rw [if_pos h1, if_pos rfl]; refine ⟨h1, ?_, rfl⟩
   show max (aI item l l.length) 0 % 2 = 1
   omega
  ·exact absurd cO (by decide)
 ·unfold oneOf at cO ⊢
  rw [if_neg (by decide)] at cO ⊢
  split at cO
  ·rename_i h1
   rw [if_pos h1, if_neg (by decide), if_pos rfl]
   refine ⟨h1, ?_⟩
   show ¬ max (aI item l l.length) (aI item l l.length + 1) % 2 = 1
   omega
  ·exact absurd cO (by decide)
 ·rw [B0 tB rfl, B1 gT rfl, hkd]
  unfold oneOf at cO ⊢; rw [if_neg (by decide)] at cO ⊢
  split at cO
  ·rename_i h1
   rw [if_pos h1, if_neg (by decide), if_neg (by decide), if_pos rfl]
   rw [if_neg (by decide), if_neg (by decide), if_pos rfl] at cO
   split at cO
   ·exact absurd cO (by decide)
   ·rename_i h2
    rw [if_neg h2]; refine ⟨h1, ?_, ?_, rfl⟩
    ·show max (aI item l l.length) 0 % 2 = 1
     omega
    ·cases hs : bN l item
     ·rfl
     ·exact absurd hs h2
  ·exact absurd cO (by decide)
 ·rw [B0 tB rfl, B1 gT rfl, hkd]
  unfold oneOf at cO ⊢; rw [if_neg (by decide)] at cO ⊢
  split at cO
  ·rename_i h1
   rw [if_pos h1, if_neg (by decide), if_neg (by decide), if_neg (by decide), if_pos rfl]
   rw [if_neg (by decide), if_neg (by decide), if_neg (by decide), if_pos rfl] at cO
   split at cO
   ·rename_i h2
    rw [if_pos h2]; refine ⟨h1, ?_, h2, rfl⟩
    show max (aI item l l.length) 0 % 2 = 1
    omega
   ·exact absurd cO (by decide)
  ·exact absurd cO (by decide)
theorem T8 {kind : Int} {item : ByteArray} {qty dv sq : Int} (h : eB kind item qty dv sq = true) : 1 ≤ kind ∧ kind ≤ 9 := by
 unfold eB at h
 repeat' split at h
 all_goals first | omega | cases h
theorem aKt {kind : Int} {item : ByteArray} {qty dv sq : Int} (h : eB kind item qty dv sq = true) (hk : kind ≤ 5) : fJ item = true := by
 have := T8 h
 unfold eB at h
 split at h
 ·rw [Bool.and_eq_true] at h; exact h.1
 ·split at h
  ·rw [Bool.and_eq_true] at h; exact h.1
  ·rename_i h1 h2
   omega
theorem xH {xs : List Int} {l : List aA} {dev kind : Int} {item : ByteArray} {qty dv sq : Int} (h0 : (dI xs l dev kind item qty dv sq).1 = 0) (hk : kind ≤ 5) : aE xs l = true ∧ (0 ≤ dev ∧ dev ≤ 3) ∧ 1 ≤ kind ∧ fJ item = true ∧ E2 xs l dev.toNat kind item qty (dI xs l dev kind item qty dv sq) := by
 unfold dI at h0 ⊢
 split at h0
 ·rename_i hok
  rw [if_pos hok]
  split at h0
  ·rename_i h1
   rw [if_pos h1]; have h2 : jE xs l dev.toNat kind item qty dv sq = dL xs l dev.toNat kind item qty := by
    unfold jE; rw [if_neg (by omega), if_neg (by omega), if_neg (by omega), if_neg (by omega)]
   rw [h2] at h1 ⊢; exact ⟨hok.1, gJ.1 hok.2.1, (T8 hok.2.2).1, aKt hok.2.2 hk, aHL h1⟩
  ·rename_i h1
   exact absurd h0 h1
 ·cases h0
theorem E2.cart {xs : List Int} {l : List aA} {d : Nat} {kind : Int} {item : ByteArray} {qty : Int} {r : Int × List Int × List aA} (h : E2 xs l d kind item qty r) (hc : aE xs l = true) (hd : d < 4) : aE r.2.1 r.2.2 = true := by
 rw [h.eq]
 exact q7 hc hd h.ok
theorem E2.lines {xs : List Int} {l : List aA} {d : Nat} {kind : Int} {item : ByteArray} {qty : Int} {r : Int × List Int × List aA} (h : E2 xs l d kind item qty r) (hc : aE xs l = true) (hd : d < 4) :
  (aZ r.2.1 r.2.2).filter (fun n => decide (n.item ≠ item)) = (aZ xs l).filter (fun n => decide (n.item ≠ item)) := by
 have hr := h.cart hc hd
 have e : ∀ (ys : List Int) (m : List aA), (aZ ys m).filter (fun n => decide (n.item ≠ item)) = ((cF ys m).filter (fun x => decide (x ≠ item))).map (cG m) := fun ys m => by
  unfold aZ; rw [List.filter_map]
  rfl
 rw [e, e]
 have e2 : (cF r.2.1 r.2.2).filter (fun x => decide (x ≠ item)) = (cF xs l).filter (fun x => decide (x ≠ item)) := by
  refine asc_one ((pK _ _).filter _) ((pK _ _).filter _) fun x => ?_
  rw [List.mem_filter, List.mem_filter, jF hr, jF hc]
  by_cases hx : item = x
  ·subst hx
   simp
  ·rw [(h.others hx).1]
 rw [e2]
 refine List.map_congr_left fun x hx => ?_
 rw [List.mem_filter] at hx
 exact (h.others (fun e => (of_decide_eq_true hx.2) e.symm)).2
end Go.Proofs.YthkagbnpcjidfaaGreatDoor
