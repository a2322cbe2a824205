/- Walks and mathematics that several claims share, part 51. -/
import Derived.Test.YtjokbaaommicmaaGreatDoorGa46
import Derived.Test.YtjokbaaommicmaaGreatDoorGa50
import Derived.Test.YtjokbaaommicmaaGreatDoorGa27
import Derived.Test.YtjokbaaommicmaaGreatDoorGa23
import Derived.Test.YtjokbaaommicmaaGreatDoorGa24
import Derived.Deep.Cut
import Derived.Lib.Hide
import Derived.Deep.RegionHeld3
import Derived.Test.YtjokbaaommicmaaGreatDoorGaA
namespace Go.Proofs.YtjokbaaommicmaaGreatDoor
set_option maxRecDepth 100000
open Go.RowKit
set_option linter.unusedVariables false
set_option linter.unusedSimpArgs false

set_option maxHeartbeats 40000000 in
theorem specIssueBad (w : World) (B : Nat) (av ao : Option Addr) (nv cv no co : Nat) (xs : List Int) (l : List OpV) (kind qty dv sq : Int) (item : ByteArray) (hx : Ints w B av nv xs) (h : Ops w B ao no l) (hB : B ≤ w.heap.size) (dev : Int) (hm : ∀ i, i < no → (atOp l i).item.size ≤ 1048576) (hv : nv ≤ 1048576) (hn : no ≤ 1048576) (hbad : cartB xs l = false) :
  Calls Tryz.prog 8 #[.agg #[.slice av nv cv, .slice ao no co], .int .i64 dev, .agg #[.int .i64 kind, .string item, .int .i64 qty, .int .i64 dv, .int .i64 sq]] w (IssN 1 [] [] w) := by
 have hT := IsuF.mk0 w #[.slice av nv cv, .slice ao no co] #[.int .i64 kind, .string item, .int .i64 qty, .int .i64 dv, .int .i64 sq] #[.slice none 0 0, .slice none 0 0]
 have HV := Lib.hid (hx.below hT.bel hB)
 have HO := Lib.hid (h.below hT.bel hB)
 have HT := Lib.hid hT
 have HM := Lib.hid hm
 have HBad := Lib.hid hbad
 clear hx h hT hm hbad
 go_enter Tryz.func8, Tryz.ntmps8
 go_upto_region 1 with fail
 generalize ((w.alloc (.cells #[.slice av nv cv, .slice ao no co] 32)).alloc (.cells #[.int .i64 kind, .string item, .int .i64 qty, .int .i64 dv, .int .i64 sq] 36)).alloc (.cells #[.slice none 0 0, .slice none 0 0] 32) = w0 at HV HO HT ⊢
 have hs0 := HT.out.lt
 obtain ⟨q0, q1⟩ := pair_cells HT.out.fst
 go_wp2_with fail
 refine (specCartOk w0 B av ao nv cv no co xs l HV.out HO.out (by omega) hv hn HM.out).mono ?_
 rw [HBad.out]
 rintro e w1 ⟨rfl, hb1⟩
 have HT1 := Lib.hid (HT.out.next hb1)
 have hs1 := hb1.size
 clear hb1 HT HV HO q0 q1
 obtain ⟨r0, r1⟩ := pair_cells HT1.out.res
 obtain ⟨f0, f1⟩ := pair_frozen HT1.out.res
 obtain ⟨HX6, HI6⟩ := HT1.out.outN (w1 := w1) (va := none) (nv := 0) (vc := 0) (oa := none) (no := 0) (oc := 0) (code := 1) (zs := []) (m := []) (by omega) (CrX.nil _ _ _)
 go_wp2
 generalize (w1.setCell ⟨w.heap.size + 1 + 1, 0, none⟩ (.slice none 0 0)).setCell ⟨w.heap.size + 1 + 1, 1, none⟩ (.slice none 0 0) = wf at HX6 HI6 ⊢
 obtain ⟨p0, p1⟩ := pair_cells HX6.out
 exact bodyPost_ret (v := .tuple #[.agg #[.slice none 0 0, .slice none 0 0], .int .i64 (1)]) (by simp [results, Tryz.results8, go_sem, p0, p1]) rfl HI6.out
theorem issueN_bad {xs : List Int} {l : List OpV} (h : cartB xs l = false) (dev kind : Int) (item : ByteArray) (qty dv sq : Int) : issueN xs l dev kind item qty dv sq = (1, [], []) := by
 unfold issueN
 rw [if_neg]
 rintro ⟨h1, _⟩
 rw [h] at h1
 cases h1
theorem specIssueA (w : World) (B : Nat) (av ao : Option Addr) (nv cv no co : Nat) (xs : List Int) (l : List OpV) (kind qty dv sq : Int) (item : ByteArray) (hx : Ints w B av nv xs) (h : Ops w B ao no l) (hB : B ≤ w.heap.size) (hcv : Caps av nv cv) (hco : Caps ao no co) (hi : item.size ≤ 1048576) (dev : Int) (hm : ∀ i, i < no → (atOp l i).item.size ≤ 1048576) (hv : nv ≤ 1048576) (hn : no ≤ 1048576) :
  Calls Tryz.prog 8 #[.agg #[.slice av nv cv, .slice ao no co], .int .i64 dev, .agg #[.int .i64 kind, .string item, .int .i64 qty, .int .i64 dv, .int .i64 sq]] w (IssN (issueN xs l dev kind item qty dv sq).1 (issueN xs l dev kind item qty dv sq).2.1 (issueN xs l dev kind item qty dv sq).2.2 w) := by
 cases hc : cartB xs l
 ·rw [issueN_bad hc]
  exact specIssueBad w B av ao nv cv no co xs l kind qty dv sq item hx h hB dev hm hv hn hc
 ·obtain rfl : nv = 4 := by rw [← hx.1]; exact (cart_vecs hc).1
  exact specIssueX w B av ao cv no co xs l kind qty dv sq item hx h hB hcv hco hi dev hm hn rfl
theorem implIssueA (w : World) (B : Nat) (E : Int → Addr) (hE : Errs w B E) (av ao : Option Addr) (nv cv no co : Nat) (xs : List Int) (l : List OpV) (dev kind qty dv sq : Int) (item : ByteArray) (hx : Ints w B av nv xs) (h : Ops w B ao no l) (hB : B ≤ w.heap.size) (hcv : nv ≤ cv) (hco : Caps ao no co) (hv : nv ≤ 1048576) (hn : no ≤ 1048576) (hi : item.size ≤ 1048576) :
  Calls Tryz.prog 11 #[.agg #[.slice av nv cv, .slice ao no co], .int .i64 dev, .agg #[.int .i64 kind, .string item, .int .i64 qty, .int .i64 dv, .int .i64 sq]] w (IssI (issueN xs l dev kind item qty dv sq) w) := by
 cases hc : cartB xs l
 ·rw [issueN_bad hc]
  exact implIssueBad w B E hE av ao nv cv no co xs l dev kind qty dv sq item hx h hB hv hco.1 ⟨hn, hco.2.1⟩ hc
 ·obtain rfl : nv = 4 := by rw [← hx.1]; exact (cart_vecs hc).1
  obtain ⟨g, off, e, _⟩ := hx.2 0 (by omega)
  subst e
  exact implIssue w B E hE g off ao cv no co xs l dev kind qty dv sq item hx h hB hcv hco hn hi
set_option linter.unusedVariables false

theorem clrU_cart {d : Nat} (hd : d < 4) : ∀ (U : List ByteArray) (zs : List Int) (m : List OpV), cartB zs m = true → (clrU d U zs m).1 = 0 → cartB (clrU d U zs m).2.1 (clrU d U zs m).2.2 = true
 | [], zs, m, h, _ => h
 | s :: U, zs, m, h, h0 => by
  unfold clrU at h0 ⊢
  split at h0
  ·rename_i h1
   rw [if_pos h1]
   exact clrU_cart hd U _ _ (oneN_cart h hd h1) h0
  ·rename_i h1
   exact absurd h0 h1
theorem tglN_cart {xs : List Int} {l : List OpV} (h : cartB xs l = true) {dev s : Int} (h0 : (tglN xs l dev s).1 = 0) : cartB (tglN xs l dev s).2.1 (tglN xs l dev s).2.2 = true := by
 unfold tglN at h0 ⊢
 split at h0
 ·rename_i h1
  rw [if_pos h1]
  split at h0
  ·cases h0
  ·rename_i h2
   rw [if_neg h2]
   exact cart_tog h h1 h2
 ·cases h0
theorem clrN_cart {xs : List Int} {l : List OpV} (h : cartB xs l = true) {d : Nat} (hd : d < 4) (h0 : (clrN xs l d).1 = 0) : cartB (clrN xs l d).2.1 (clrN xs l d).2.2 = true := by
 rw [clr_impl h hd] at h0 ⊢
 split at h0
 ·cases h0
 ·rename_i h1
  rw [if_neg h1]
  exact clrU_cart hd _ _ _ h h0
theorem l6N_cart {xs : List Int} {l : List OpV} (h : cartB xs l = true) {d : Nat} (hd : d < 4) {kind : Int} {item : ByteArray} {qty dv sq : Int} (h0 : (l6N xs l d kind item qty dv sq).1 = 0) : cartB (l6N xs l d kind item qty dv sq).2.1 (l6N xs l d kind item qty dv sq).2.2 = true := by
 unfold l6N at h0 ⊢
 split at h0
 ·rename_i h1
  rw [if_pos h1]
  exact clrN_cart h hd h0
 ·rename_i h1
  rw [if_neg h1]
  split at h0
  ·rename_i h1
   rw [if_pos h1]
   exact tglN_cart h h0
  ·rename_i h1
   rw [if_neg h1]
   split at h0
   ·rename_i h1
    rw [if_pos h1]
    exact tglN_cart h h0
   ·rename_i h1
    rw [if_neg h1]
    split at h0
    ·rename_i h1
     rw [if_pos h1]
     exact tglN_cart h h0
    ·rename_i h1
     rw [if_neg h1]
     exact oneN_cart h hd h0
/-- Whatever is answered: the form is wrong and there is nothing, or it is a right cart. -/
theorem issueN_cart (xs : List Int) (l : List OpV) (dev kind : Int) (item : ByteArray) (qty dv sq : Int) : issueN xs l dev kind item qty dv sq = (1, [], []) ∨ cartB (issueN xs l dev kind item qty dv sq).2.1 (issueN xs l dev kind item qty dv sq).2.2 = true := by
 unfold issueN
 split
 ·rename_i hok
  right
  have hdv := hok.2.1
  unfold inB at hdv
  have hd := of_decide_eq_true hdv
  split
  ·rename_i h0
   exact l6N_cart hok.1 (by omega) h0
  ·exact hok.1
 ·exact .inl rfl
theorem issueN_len (xs : List Int) (l : List OpV) (dev kind : Int) (item : ByteArray) (qty dv sq : Int) : (issueN xs l dev kind item qty dv sq).2.1.length ≤ 4 ∧ (issueN xs l dev kind item qty dv sq).2.2.length ≤ 160 := by
 rcases issueN_cart xs l dev kind item qty dv sq with h | h
 ·rw [h]
  exact ⟨by decide, by decide⟩
 ·exact ⟨Nat.le_of_eq (cart_vecs h).1, cart_length h⟩
theorem toCmdL (kind : Int) (item : ByteArray) (qty dev seq : Int) (w : World) : Calls Tryz.prog 10 #[.agg #[.int .i64 kind, .string item, .int .i64 qty, .int .i64 dev, .int .i64 seq]] w fun e w' => e = .returned (.agg #[.int .i64 kind, .string item, .int .i64 qty, .int .i64 dev, .int .i64 seq]) ∧ Below w.heap.size w w' := by
 go_enter Tryz.func10, Tryz.ntmps10
 go_wp2
 refine bodyPost_ret (v := .agg #[.int .i64 kind, .string item, .int .i64 qty, .int .i64 dev, .int .i64 seq]) (by simp [results, Tryz.results10, go_sem]) rfl ⟨rfl, ?_⟩
 go_grown
theorem szCmdNoL (kind : Int) (item : ByteArray) (qty dev seq : Int) (L : Nat) (hL : L ≤ 1048576) (hs : item.size ≤ maxLen) (h : ¬ item.size ≤ L) (w : World) : Calls Tryz.prog 7 #[.agg #[.int .i64 kind, .string item, .int .i64 qty, .int .i64 dev, .int .i64 seq], .int .i64 (L : Int)] w fun e w' => e = .returned (.int .i64 (-1)) ∧ Below w.heap.size w w' := by
 have hd : decide ((L : Int) - (item.size : Int) < 0) = true := decide_eq_true (by omega)
 have hd2 : (L : Int) < (item.size : Int) := by omega
 unfold maxLen at hs
 have hw : IntKind.i64.wrap ((L : Int) - (item.size : Int)) = (L : Int) - (item.size : Int) := IntWalk.i64_in _ (by omega)
 go_enter Tryz.func7, Tryz.ntmps7
 go_wp2
 go_ret
 exact ⟨rfl, bl⟩
theorem szCmdYesL (kind : Int) (item : ByteArray) (qty dev seq : Int) (L : Nat) (hL : L ≤ 1048576) (h : item.size ≤ L) (w : World) : Calls Tryz.prog 7 #[.agg #[.int .i64 kind, .string item, .int .i64 qty, .int .i64 dev, .int .i64 seq], .int .i64 (L : Int)] w fun e w' => e = .returned (.int .i64 ((L : Int) - (item.size : Int))) ∧ Below w.heap.size w w' := by
 have hd : decide ((L : Int) - (item.size : Int) < 0) = false := decide_eq_false (by omega)
 have hw : IntKind.i64.wrap ((L : Int) - (item.size : Int)) = (L : Int) - (item.size : Int) := IntWalk.i64_in _ (by omega)
 go_enter Tryz.func7, Tryz.ntmps7
 go_wp2
 go_ret
 exact ⟨rfl, bl⟩
theorem Errs.kept {w w' : World} {B : Nat} {E : Int → Addr} (h : Errs w B E) (hk : ∀ j, j < B → w'.heap[j]? = w.heap[j]?) : Errs w' B E := by
 have hl := h.low
 refine ⟨h.low, fun c h1 h2 => ?_, fun c h1 h2 => ?_, h.ne, ?_⟩
 ·have := gOf_lt c
  exact (World.cell?_of_block (a := ⟨gOf c, 0, none⟩) (hk _ (by show gOf c < B; omega))).trans (h.cells c h1 h2)
 ·obtain ⟨a, ca, ta, hc⟩ := h.lies c h1 h2
  exact ⟨a, ca, ta, (hk _ (by omega)).trans hc⟩
 ·exact (World.cell?_of_block (a := ⟨1, 0, none⟩) (hk _ (by show 1 < B; omega))).trans h.typ
theorem capsI {w : World} {B : Nat} {a : Option Addr} {n : Nat} {xs : List Int} (h : Ints w B a n xs) (hn : n ≤ 1048576) : Caps a n n := by
 refine ⟨Nat.le_refl _, by unfold CapOk maxLen; omega, fun e => ?_⟩
 rcases Nat.eq_zero_or_pos n with q | q
 ·exact q
 ·obtain ⟨b, o, e2, _⟩ := h.2 0 q
  rw [e] at e2
  cases e2
theorem capsO {w : World} {B : Nat} {a : Option Addr} {n : Nat} {l : List OpV} (h : Ops w B a n l) (hn : n ≤ 1048576) : Caps a n n := by
 refine ⟨Nat.le_refl _, by unfold CapOk maxLen; omega, fun e => ?_⟩
 rcases Nat.eq_zero_or_pos n with q | q
 ·exact q
 ·obtain ⟨b, o, e2, _⟩ := h.2 0 q
  rw [e] at e2
  cases e2
set_option linter.unusedVariables false
set_option linter.unusedSimpArgs false


set_option maxHeartbeats 5000000 in
theorem markCartM (w : World) (lo mid hi : Nat) (av ao : Option Addr) (nv cv no co : Nat) (xs : List Int) (l : List OpV) (hx : Own w lo mid av nv xs) (h : OwnOps w mid hi ao no l) (h1 : lo ≤ mid) (h2 : mid ≤ hi) (hh : hi ≤ w.heap.size) (hv : nv ≤ 1048576) (hn : no ≤ 1048576) (k : Nat) (hk0 : 0 < k) (hk : k ≤ 9000000) :
  Calls Tryz.prog 13 #[.agg #[.slice av nv cv, .slice ao no co], .int .i64 (k : Int)] w fun e w' => (∃ m : Nat, Hid (m = k + nv + 8 * no) ∧ e = .returned (.int .i64 (m : Int))) ∧ Own w' lo mid av nv (marks k nv) ∧ OwnOps w' mid hi ao no (opMarks (k + nv) no) ∧ Beside lo hi w w' := by
 have hb0 : Below w.heap.size w (w.alloc (.cells #[.slice av nv cv, .slice ao no co] 32)) := (Below.refl _ w).alloc (Nat.le_refl _) _
 have HV := Lib.hid (hx.below hb0 (by omega))
 have HO := Lib.hid (h.below hb0 hh)
 have HB : Hid (Beside lo hi w (w.alloc (.cells #[.slice av nv cv, .slice ao no co] 32))) := Below.beside hb0
 have HX := Lib.hid (boxAt (Below.refl _ (w.alloc (.cells #[.slice av nv cv, .slice ao no co] 32))))
 have hsz : w.heap.size < (w.alloc (.cells #[.slice av nv cv, .slice ao no co] 32)).heap.size := by show _ < (w.heap.push _).size; simp
 clear hx h hb0
 go_enter Tryz.func13, Tryz.ntmps13
 go_wp2_with fail
 generalize w.alloc (.cells #[.slice av nv cv, .slice ao no co] 32) = w0 at HV HO HB HX hsz ⊢
 refine (mark w0 lo mid av nv cv xs HV.out k (by omega) hv).mono ?_
 rintro e w1 ⟨⟨m, hm, rfl⟩, ho, hO⟩
 have HO1 : Hid (OwnOps w1 mid hi ao no l) := HO.out.kept fun j h1 h2 => hO.block j (by omega)
 have HX1 := Lib.hid ((hO.block _ (.inr (by omega))).trans HX.out)
 have HB1 := Lib.hid (HB.out.trans (hO.beside.wide (Nat.le_refl _) h2))
 have hs1 : w.heap.size < w1.heap.size := by have := hO.size; omega
 have hmb : 0 < m ∧ m ≤ 10048577 := by omega
 obtain ⟨hm0, hm1⟩ := hmb
 have HMm := Lib.hid hm
 have HV1 := Lib.hid ho
 clear ho hO HX HV HO HB hm
 obtain ⟨c0, c1⟩ := pair_cells HX1.out
 go_wp2_with fail
 refine (markOps w1 mid hi ao no co l HO1.out m hm0 (by omega) hn).mono ?_
 rintro e w2 ⟨⟨m2, hm2, rfl⟩, ho2, hO⟩
 have HV2 : Hid (Own w2 lo mid av nv (marks k nv)) := HV1.out.kept fun j h1 h2 => hO.block j (by omega) (.inl h2)
 have HP2 : Hid (OwnOps w2 mid hi ao no (opMarks (k + nv) no)) := by
  have e : k + nv = m := by have := HMm.out; omega
  rw [e]
  exact ho2
 have HB2 := Lib.hid (HB1.out.trans (hO.wide h1 (Nat.le_refl _)))
 have hm2' : Hid (m2 = k + nv + 8 * no) := by have := HMm.out; show _ = _; omega
 clear hO c0 c1 HX1 HB1 HO1 hm2 HMm HV1 ho2
 go_wp2
 go_ret
 exact ⟨⟨m2, hm2', rfl⟩, HV2.out, HP2.out, HB2.out⟩

set_option maxHeartbeats 5000000 in
theorem heldCart (w : World) (B : Nat) (av ao : Option Addr) (nv cv no co k : Nat) (hx : Ints w B av nv (marks k nv)) (h : Ops w B ao no (opMarks (k + nv) no)) (hB : B ≤ w.heap.size) (hv : nv ≤ 1048576) (hn : no ≤ 1048576) (hk0 : 0 < k) (hk : k ≤ 1000000) :
  Calls Tryz.prog 14 #[.agg #[.slice av nv cv, .slice ao no co], .int .i64 (k : Int)] w fun e w' => e = .returned (.int .i64 ((k + nv + 8 * no : Nat) : Int)) ∧ Below w.heap.size w w' := by
 have hb0 : Below w.heap.size w (w.alloc (.cells #[.slice av nv cv, .slice ao no co] 32)) := (Below.refl _ w).alloc (Nat.le_refl _) _
 have HV := Lib.hid (hx.below hb0 hB)
 have HO := Lib.hid (h.below hb0 hB)
 have HB := Lib.hid hb0
 have HX := Lib.hid (boxAt (Below.refl _ (w.alloc (.cells #[.slice av nv cv, .slice ao no co] 32))))
 have hsz : w.heap.size < (w.alloc (.cells #[.slice av nv cv, .slice ao no co] 32)).heap.size := by show _ < (w.heap.push _).size; simp
 have hBw := hB
 clear hx h hb0 hB
 go_enter Tryz.func14, Tryz.ntmps14
 go_wp2_with fail
 generalize w.alloc (.cells #[.slice av nv cv, .slice ao no co] 32) = w0 at HV HO HB HX hsz ⊢
 refine (held w0 B av nv cv k HV.out (by omega) hv).mono ?_
 rintro e w1 ⟨rfl, rfl⟩
 have hk1 : 0 < k + nv := by omega
 have hk2 : k + nv ≤ 20000000 := by omega
 have hd1 : ¬ (((k + nv : Nat) : Int) < 0) := by omega
 obtain ⟨c0, c1⟩ := pair_cells HX.out
 generalize hkn : k + nv = kn at HO hk1 hk2 hd1 ⊢
 go_wp2_with fail
 refine (heldOps w0 B ao no co kn HO.out (by omega) hk1 hk2 hn).mono ?_
 rintro e w2 ⟨rfl, hb2⟩
 have HB2 := Lib.hid (HB.out.trans (hb2.mono (by omega)))
 have hd2 : ¬ (((kn + 8 * no : Nat) : Int) < 0) := by omega
 generalize hkm : kn + 8 * no = km at hd2 ⊢
 have HK2 : Hid (k + nv + 8 * no = km) := by show _ = _; omega
 clear hb2 c0 c1 hkm hkn
 go_wp2
 go_ret
 exact ⟨by rw [HK2.out]; rfl, HB2.out⟩

theorem Own.besideM {w w' : World} {lo hi lo' hi' : Nat} {a : Option Addr} {n : Nat} {xs : List Int} (h : Own w lo hi a n xs) (hb : Beside lo' hi' w w') (hd : hi ≤ lo' ∨ hi' ≤ lo) (hw : hi ≤ w.heap.size) : Own w' lo hi a n xs :=
 h.kept fun j h1 h2 => hb.block j (by omega) (by omega)
theorem share8 {G : Prop} {F : Nat → Option Addr → Option Addr → Option Addr → Nat → Option Addr → Nat → World → Prop} (T : Nat → Option Addr → Option Addr → Option Addr → Nat → Option Addr → Nat → World → Prop) (h1 : (∀ a b c d e f g h, F a b c d e f g h → T a b c d e f g h) → G) (h2 : ∀ a b c d e f g h, F a b c d e f g h → T a b c d e f g h) : G := h1 h2
theorem share6 {G : Prop} {F : Nat → Option Addr → Nat → Option Addr → Nat → World → Prop} (T : Nat → Option Addr → Nat → Option Addr → Nat → World → Prop) (h1 : (∀ a b c d e f, F a b c d e f → T a b c d e f) → G) (h2 : ∀ a b c d e f, F a b c d e f → T a b c d e f) : G := h1 h2
theorem two2 (w : World) (A B : Obj) : Below w.heap.size w ((w.alloc A).alloc B) ∧ ((w.alloc A).alloc B).heap[w.heap.size]? = some A ∧ ((w.alloc A).alloc B).heap[w.heap.size + 1]? = some B ∧ w.heap.size + 1 + 1 ≤ ((w.alloc A).alloc B).heap.size := by
 have e1 : (w.alloc A).heap.size = w.heap.size + 1 := by simp
 refine ⟨((Below.refl _ w).alloc (Nat.le_refl _) _).alloc (by simp) _, ?_, ?_, by simp⟩
 ·exact (Below.heap_alloc _ _ _ (by omega)).trans (heap_alloc_new _ _)
 ·rw [← e1]; exact heap_alloc_new _ _
set_option maxHeartbeats 80000000 in
theorem fnExactIssueWalk (E : Int → Addr) (av ao : Option Addr) (nv cv no co : Nat) (xs : List Int) (l : List OpV) (dev kind : Int) (item : ByteArray) (qty dv sq : Int) (w : World) (hE : Errs w w.heap.size E) (hx : Ints w w.heap.size av nv xs) (h : Ops w w.heap.size ao no l) (hv : nv ≤ maxLen) (hn : no ≤ maxLen) (hm : ∀ i, i < no → (l.getD i OpV.zero).item.size ≤ maxLen) (hi0 : item.size ≤ maxLen) : Calls Tryz.prog 3 #[.agg #[.slice av nv cv, .slice ao no co], .int .i64 dev, .agg #[.int .i64 kind, .string item, .int .i64 qty, .int .i64 dv, .int .i64 sq]] w fun e w' => e = .returned (.bool true) ∧ Below w.heap.size w w' := by
 obtain ⟨hb0, hX0, hQ0, hs0⟩ := two2 w (.cells #[.slice av nv cv, .slice ao no co] 25) (.cells #[.int .i64 kind, .string item, .int .i64 qty, .int .i64 dv, .int .i64 sq] 27)
 have HV0 := Lib.hid (hx.below hb0 (Nat.le_refl _))
 have HO0 := Lib.hid (h.below hb0 (Nat.le_refl _))
 have HE0 := Lib.hid (hE.below hb0 (Nat.le_refl _))
 have HB0 := Lib.hid hb0
 have HX0 := Lib.hid hX0
 have HQ0 := Lib.hid hQ0
 have HLx := Lib.hid hx.1
 have HLo := Lib.hid h.1
 have HM := Lib.hid hm
 clear hx h hb0 hm hE hX0 hQ0
 go_enter Tryz.func3, Tryz.ntmps3
 go_upto_region 1 with fail
 generalize (w.alloc (.cells #[.slice av nv cv, .slice ao no co] 25)).alloc (.cells #[.int .i64 kind, .string item, .int .i64 qty, .int .i64 dv, .int .i64 sq] 27) = w0 at HV0 HO0 HE0 HX0 HQ0 HB0 hs0 ⊢
 obtain ⟨c0, c1⟩ := pair_cells HX0.out
 go_wp2_with fail
 refine (szCart w0 w.heap.size av ao nv cv no co l HO0.out (by omega) hv hn HM.out 1048576 (Nat.le_refl _)).mono ?_
 rintro e w1 ⟨rfl, hb⟩
 clear c0 c1
 have hs1 := hb.size
 have HX1 := Lib.hid ((hb.block _ (Array.getElem?_eq_some_iff.1 HX0.out).1).trans HX0.out)
 have HQ1 := Lib.hid ((hb.block _ (Array.getElem?_eq_some_iff.1 HQ0.out).1).trans HQ0.out)
 have HV1 := Lib.hid (HV0.out.below hb (by omega))
 have HO1 := Lib.hid (HO0.out.below hb (by omega))
 have HE1 := Lib.hid (HE0.out.below hb (by omega))
 have HB1 := Lib.hid (HB0.out.trans (hb.mono (by omega)))
 clear hb HX0 HQ0 HV0 HO0 HE0 HB0
 by_cases hbig : nv + opsTotal l ≤ 1048576
 rotate_left
 ·rw [if_neg hbig]
  go_wp2
  go_ret
  exact ⟨rfl, HB1.out⟩
 rw [if_pos hbig]
 obtain ⟨hlo, hit⟩ := total_item (l := l) (t := 1048576) (by omega)
 have HIt := Lib.hid hit
 have hno : no ≤ 1048576 := by rw [← HLo.out]; exact hlo
 have hnv : nv ≤ 1048576 := by omega
 have hd : decide (((1048576 - (nv + opsTotal l) : Nat) : Int) < 0) = false := decide_eq_false (by omega)
 have HTot : Hid (nv + 8 * no ≤ 8388608) := by
  show _ ≤ _
  have : opsTotal l ≥ l.length := by unfold opsTotal; omega
  have := HLo.out
  omega
 clear hit hbig
 have hxl : xs.length ≤ 1048576 := by rw [HLx.out]; exact hnv
 obtain ⟨lf, hlf⟩ : ∃ lf, lf = 1048576 - (nv + opsTotal l) := ⟨_, rfl⟩
 rw [← hlf] at hd ⊢
 have hlf2 : lf ≤ 1048576 := by omega
 clear hlf
 obtain ⟨d0, d1, d2, d3, d4⟩ := cmd_cells5 HQ1.out
 by_cases hib : item.size ≤ lf
 rotate_left
 ·go_wp2_with fail
  refine (szCmdNoL kind item qty dv sq lf hlf2 hi0 hib w1).mono ?_
  rintro e w2 ⟨rfl, hb⟩
  have HB2 := Lib.hid (HB1.out.trans (hb.mono (by omega)))
  clear hb
  go_wp2
  go_ret
  exact ⟨rfl, HB2.out⟩
 go_wp2_with fail
 refine (szCmdYesL kind item qty dv sq lf hlf2 hib w1).mono ?_
 rintro e w2 ⟨rfl, hb⟩
 clear d0 d1 d2 d3 d4
 have hs2 := hb.size
 have HX2 := Lib.hid ((hb.block _ (Array.getElem?_eq_some_iff.1 HX1.out).1).trans HX1.out)
 have HQ2 := Lib.hid ((hb.block _ (Array.getElem?_eq_some_iff.1 HQ1.out).1).trans HQ1.out)
 have HV2 := Lib.hid (HV1.out.below hb (by omega))
 have HO2 := Lib.hid (HO1.out.below hb (by omega))
 have HE2 := Lib.hid (HE1.out.below hb (by omega))
 have HB2 := Lib.hid (HB1.out.trans (hb.mono (by omega)))
 clear hb HX1 HQ1 HV1 HO1 HE1 HB1
 have hd2 : decide ((lf : Int) - (item.size : Int) < 0) = false := decide_eq_false (by omega)
 have hi8 : item.size ≤ 1048576 := by omega
 obtain ⟨r, hr⟩ : ∃ r, issueN xs l dev kind item qty dv sq = r := ⟨_, rfl⟩
 have HR := Lib.hid hr
 have hrl := issueN_len xs l dev kind item qty dv sq
 rw [hr] at hrl
 obtain ⟨hzl, hLn⟩ := hrl
 have hbr : (r.1 != r.1) = false := bne_self_eq_false _
 clear hr
 go_upto_region 8 with fail
 rename_i KR hKR
 obtain ⟨w3, hz⟩ : ∃ z, z = w2.drew := ⟨_, rfl⟩
 have hb : Below w2.heap.size w2 w3 := by rw [hz]; exact ⟨rfl, rfl, rfl, Nat.le_refl _, fun _ _ => rfl⟩
 have hs3 := hb.size
 have HX3 := Lib.hid ((hb.block _ (Array.getElem?_eq_some_iff.1 HX2.out).1).trans HX2.out)
 have HQ3 := Lib.hid ((hb.block _ (Array.getElem?_eq_some_iff.1 HQ2.out).1).trans HQ2.out)
 have HV3 := Lib.hid (HV2.out.below hb (by omega))
 have HO3 := Lib.hid (HO2.out.below hb (by omega))
 have HE3 := Lib.hid (HE2.out.below hb (by omega))
 have HB3 := Lib.hid (HB2.out.trans (hb.mono (by omega)))
 clear hb HX2 HQ2 HV2 HO2 HE2 HB2
 have hSk : ∀ z, Below w3.heap.size w3 z → z.cell? ⟨w.heap.size, 0, none⟩ = some (.slice av nv cv) ∧ z.cell? ⟨w.heap.size, 1, none⟩ = some (.slice ao no co) ∧ z.cell? ⟨w.heap.size + 1, 0, none⟩ = some (.int .i64 kind) ∧ z.cell? ⟨w.heap.size + 1, 1, none⟩ = some (.string item) ∧ z.cell? ⟨w.heap.size + 1, 2, none⟩ = some (.int .i64 qty) ∧ z.cell? ⟨w.heap.size + 1, 3, none⟩ = some (.int .i64 dv) ∧ z.cell? ⟨w.heap.size + 1, 4, none⟩ = some (.int .i64 sq) := fun z hb => by
  obtain ⟨c0, c1⟩ := pair_cells ((hb.block _ (Array.getElem?_eq_some_iff.1 HX3.out).1).trans HX3.out)
  obtain ⟨d0, d1, d2, d3, d4⟩ := cmd_cells5 ((hb.block _ (Array.getElem?_eq_some_iff.1 HQ3.out).1).trans HQ3.out)
  exact ⟨c0, c1, d0, d1, d2, d3, d4⟩
 refine wp_region_held_drew (S := fun w' => w'.cell? ⟨w.heap.size, 0, none⟩ = some (.slice av nv cv) ∧ w'.cell? ⟨w.heap.size, 1, none⟩ = some (.slice ao no co) ∧ w'.cell? ⟨w.heap.size + 1, 0, none⟩ = some (.int .i64 kind) ∧ w'.cell? ⟨w.heap.size + 1, 1, none⟩ = some (.string item) ∧ w'.cell? ⟨w.heap.size + 1, 2, none⟩ = some (.int .i64 qty) ∧ w'.cell? ⟨w.heap.size + 1, 3, none⟩ = some (.int .i64 dv) ∧ w'.cell? ⟨w.heap.size + 1, 4, none⟩ = some (.int .i64 sq)) (by kernel_rfl) (by rw [← hz]; exact hSk w3 (Below.refl _ _)) (fun hHeld => ?_)
 rw [← hz] at hHeld ⊢
 clear hz
 refine tk 0 ⟨some 29, .load 25 (.tmp 3), 25, "exact.go:2655", #[], none⟩ ?_
 (try simp only [Act.put, u1, u2, u3])
 refine tk 2 ⟨some 31, .move (.tmp 1), 2, "exact.go:2655", #[], none⟩ ?_
 (try simp only [Act.put, u1, u2, u3])
 refine tk 3 ⟨some 32, .load 27 (.tmp 5), 27, "exact.go:2655", #[], none⟩ ?_
 (try simp only [Act.put, u1, u2, u3])
 apply share8 (F := fun nW va oa sva svc soa soc wT => Below w3.heap.size w3 wT ∧ w3.heap.size ≤ nW ∧ wT.heap[nW]? = some (.cells #[.slice none 0 0, .slice none 0 0] 32 (0, 0)) ∧ ∃ lo hi, Own wT lo hi sva r.2.1.length r.2.1 ∧ OwnOps wT lo hi soa r.2.2.length r.2.2 ∧ w3.heap.size ≤ lo ∧ lo ≤ hi ∧ hi ≤ wT.heap.size ∧ (nW < lo ∨ hi ≤ nW))
 case h1 =>
  intro hT
  have g0 : Below w3.heap.size w3 w3 := Below.refl _ _
  refine wpAnyH_ready (rs := [1, 9]) (by kernel_rfl) (by simp) ?_
  refine AllReadyH.cons rfl (fun K hK => ?_) (AllReadyH.cons rfl (fun K hK => ?_) AllReadyH.nil)
  ·
   go_simp
   go_at_call 9
   refine (toCart w3 w.heap.size av ao nv cv no co xs l (HV3.out.below g0 (by omega)) (HO3.out.below g0 (by omega)) (by have := g0.size; omega) hnv hno).mono ?_
   rintro e y1 ⟨va, oa, rfl, hiC, hoC, t1⟩
   have gy1 : Below w3.heap.size w3 y1 := g0.trans (t1.mono g0.size)
   have sy1 := t1.size
   refine hK.out _ _ (hSk y1 gy1) (fun _ => ?_)
   clear hK K
   (try simp only [Act.put, u1, u2, u3])
   refine wpAnyH_ready (rs := [4, 9]) (by kernel_rfl) (by simp) ?_
   refine AllReadyH.cons rfl (fun K hK => ?_) (AllReadyH.cons rfl (fun K hK => ?_) AllReadyH.nil)
   ·
    go_simp
    go_at_call 10
    refine (toCmdL kind item qty dv sq y1).mono ?_
    rintro e y2 ⟨rfl, t2⟩
    have gy2 : Below w3.heap.size w3 y2 := gy1.trans (t2.mono gy1.size)
    have sy2 := t2.size
    have iy2 := (hiC.below t2 (Nat.le_refl _)).more t2.size
    have oy2 := (hoC.below t2 (Nat.le_refl _)).more t2.size
    refine hK.out _ _ (hSk y2 gy2) (fun _ => ?_)
    clear hK K
    (try simp only [Act.put, u1, u2, u3])
    refine wpAnyH_ready (rs := [5, 9]) (by kernel_rfl) (by simp) ?_
    refine AllReadyH.cons rfl (fun K hK => ?_) (AllReadyH.cons rfl (fun K hK => ?_) AllReadyH.nil)
    ·
     go_simp
     go_at_call 8
     have hsp := specIssueA y2 y2.heap.size va oa xs.length xs.length l.length l.length xs l kind qty dv sq item iy2 oy2 (Nat.le_refl _) (capsI iy2 hxl) (capsO oy2 hlo) hi8 dev HIt.out hxl hlo
     rw [HR.out] at hsp
     refine hsp.mono ?_
     rintro e y3 ⟨sva, svc, soa, soc, rfl, hiR, hoR, t3, _, _⟩
     have gy3 : Below w3.heap.size w3 y3 := gy2.trans (t3.mono gy2.size)
     have sy3 := t3.size
     have sgy3 := gy2.size
     refine hK.out _ _ (hSk y3 gy3) (fun _ => ?_)
     clear hK K
     (try simp only [Act.put, u1, u2, u3])
     refine tk 6 ⟨some 28, .move (.tmp 34), 33, "exact.go:2655", #[⟨5, .data⟩], none⟩ ?_
     (try simp only [Act.put, u1, u2, u3])
     refine tk 7 ⟨some 35, .extract (.tmp 28) 0, 32, "exact.go:2655", #[⟨6, .data⟩], none⟩ ?_
     (try simp only [Act.put, u1, u2, u3])
     refine tk 8 ⟨some 36, .extract (.tmp 28) 1, 2, "exact.go:2655", #[⟨6, .data⟩, { on := 10, ground := Ground.gcOnly Departure.lateStores }], none⟩ ?_
     (try simp only [Act.put, u1, u2, u3])
     refine rk 9 rfl (fun K hK => ?_)
     have t4 : Below y3.heap.size y3 (y3.alloc (.cells #[.slice none 0 0, .slice none 0 0] 32)) := bl
     have hSy4 := hSk (y3.alloc (.cells #[.slice none 0 0, .slice none 0 0] 32)) (gy3.trans (t4.mono gy3.size))
     have vy4 : (y3.alloc (.cells #[.slice none 0 0, .slice none 0 0] 32)).heap[y3.heap.size]? = some (.cells #[.slice none 0 0, .slice none 0 0] 32 (0, 0)) := heap_alloc_new _ _
     go_simp
     refine hK.out _ _ hSy4 (fun _ => ?_)
     clear hK K hSy4
     (try simp only [Act.put, u1, u2, u3])
     generalize (y3.alloc (.cells #[.slice none 0 0, .slice none 0 0] 32)) = y4 at t4 vy4 ⊢
     have vly4 : y3.heap.size < y4.heap.size := (Array.getElem?_eq_some_iff.1 vy4).1
     have gy4 : Below w3.heap.size w3 y4 := gy3.trans (t4.mono gy3.size)
     have sy4 := t4.size
     have py4 := hiR.below t4 (by omega)
     have qy4 := hoR.below t4 (by omega)
     obtain ⟨nW, hnW⟩ : ∃ nW, nW = y3.heap.size := ⟨_, rfl⟩
     have hge : w3.heap.size ≤ nW := by rw [hnW]; exact gy3.size
     rw [← hnW] at vy4 ⊢
     have hnw1 : nW ≤ y3.heap.size := Nat.le_of_eq hnW
     have hnw2 : y3.heap.size ≤ nW := Nat.le_of_eq hnW.symm
     clear hnW
     exact wpAnyH_listed (l' := #[true, true, true, true, true, true, true, true, true, true, false, false]) (by kernel_rfl) (hT nW va oa sva svc soa soc y4 ⟨gy4, hge, vy4, ⟨y2.heap.size, y3.heap.size, py4, qy4, by omega, by omega, by omega, by omega⟩⟩)
    ·
     have t5 : Below y2.heap.size y2 (y2.alloc (.cells #[.slice none 0 0, .slice none 0 0] 32)) := bl
     have hSy5 := hSk (y2.alloc (.cells #[.slice none 0 0, .slice none 0 0] 32)) (gy2.trans (t5.mono gy2.size))
     have vy5 : (y2.alloc (.cells #[.slice none 0 0, .slice none 0 0] 32)).heap[y2.heap.size]? = some (.cells #[.slice none 0 0, .slice none 0 0] 32 (0, 0)) := heap_alloc_new _ _
     go_simp
     refine hK.out _ _ hSy5 (fun _ => ?_)
     clear hK K hSy5
     (try simp only [Act.put, u1, u2, u3])
     generalize (y2.alloc (.cells #[.slice none 0 0, .slice none 0 0] 32)) = y5 at t5 vy5 ⊢
     have vly5 : y2.heap.size < y5.heap.size := (Array.getElem?_eq_some_iff.1 vy5).1
     have gy5 : Below w3.heap.size w3 y5 := gy2.trans (t5.mono gy2.size)
     have sy5 := t5.size
     have iy5 := (iy2.below t5 (Nat.le_refl _)).more t5.size
     have oy5 := (oy2.below t5 (Nat.le_refl _)).more t5.size
     obtain ⟨nW, hnW⟩ : ∃ nW, nW = y2.heap.size := ⟨_, rfl⟩
     have hge : w3.heap.size ≤ nW := by rw [hnW]; exact gy2.size
     rw [← hnW] at vy5 ⊢
     have hnw1 : nW ≤ y2.heap.size := Nat.le_of_eq hnW
     have hnw2 : y2.heap.size ≤ nW := Nat.le_of_eq hnW.symm
     clear hnW
     refine rk 5 rfl (fun K hK => ?_)
     go_simp
     go_at_call 8
     have hsp := specIssueA y5 y5.heap.size va oa xs.length xs.length l.length l.length xs l kind qty dv sq item iy5 oy5 (Nat.le_refl _) (capsI iy5 hxl) (capsO oy5 hlo) hi8 dev HIt.out hxl hlo
     rw [HR.out] at hsp
     refine hsp.mono ?_
     rintro e y6 ⟨sva, svc, soa, soc, rfl, hiR, hoR, t6, _, _⟩
     have gy6 : Below w3.heap.size w3 y6 := gy5.trans (t6.mono gy5.size)
     have sy6 := t6.size
     have vy6 := (t6.block _ (Array.getElem?_eq_some_iff.1 vy5).1).trans vy5
     have sgy6 := gy5.size
     refine hK.out _ _ (hSk y6 gy6) (fun _ => ?_)
     clear hK K
     (try simp only [Act.put, u1, u2, u3])
     refine tk 6 ⟨some 28, .move (.tmp 34), 33, "exact.go:2655", #[⟨5, .data⟩], none⟩ ?_
     (try simp only [Act.put, u1, u2, u3])
     refine tk 7 ⟨some 35, .extract (.tmp 28) 0, 32, "exact.go:2655", #[⟨6, .data⟩], none⟩ ?_
     (try simp only [Act.put, u1, u2, u3])
     refine tk 8 ⟨some 36, .extract (.tmp 28) 1, 2, "exact.go:2655", #[⟨6, .data⟩, { on := 10, ground := Ground.gcOnly Departure.lateStores }], none⟩ ?_
     (try simp only [Act.put, u1, u2, u3])
     exact wpAnyH_listed (l' := #[true, true, true, true, true, true, true, true, true, true, false, false]) (by kernel_rfl) (hT nW va oa sva svc soa soc y6 ⟨gy6, hge, vy6, ⟨y5.heap.size, y6.heap.size, hiR, hoR, by omega, by omega, by omega, by omega⟩⟩)
   ·
    have t7 : Below y1.heap.size y1 (y1.alloc (.cells #[.slice none 0 0, .slice none 0 0] 32)) := bl
    have hSy7 := hSk (y1.alloc (.cells #[.slice none 0 0, .slice none 0 0] 32)) (gy1.trans (t7.mono gy1.size))
    have vy7 : (y1.alloc (.cells #[.slice none 0 0, .slice none 0 0] 32)).heap[y1.heap.size]? = some (.cells #[.slice none 0 0, .slice none 0 0] 32 (0, 0)) := heap_alloc_new _ _
    go_simp
    refine hK.out _ _ hSy7 (fun _ => ?_)
    clear hK K hSy7
    (try simp only [Act.put, u1, u2, u3])
    generalize (y1.alloc (.cells #[.slice none 0 0, .slice none 0 0] 32)) = y7 at t7 vy7 ⊢
    have vly7 : y1.heap.size < y7.heap.size := (Array.getElem?_eq_some_iff.1 vy7).1
    have gy7 : Below w3.heap.size w3 y7 := gy1.trans (t7.mono gy1.size)
    have sy7 := t7.size
    have iy7 := (hiC.below t7 (Nat.le_refl _)).more t7.size
    have oy7 := (hoC.below t7 (Nat.le_refl _)).more t7.size
    obtain ⟨nW, hnW⟩ : ∃ nW, nW = y1.heap.size := ⟨_, rfl⟩
    have hge : w3.heap.size ≤ nW := by rw [hnW]; exact gy1.size
    rw [← hnW] at vy7 ⊢
    have hnw1 : nW ≤ y1.heap.size := Nat.le_of_eq hnW
    have hnw2 : y1.heap.size ≤ nW := Nat.le_of_eq hnW.symm
    clear hnW
    refine rk 4 rfl (fun K hK => ?_)
    go_simp
    go_at_call 10
    refine (toCmdL kind item qty dv sq y7).mono ?_
    rintro e y8 ⟨rfl, t8⟩
    have gy8 : Below w3.heap.size w3 y8 := gy7.trans (t8.mono gy7.size)
    have sy8 := t8.size
    have vy8 := (t8.block _ (Array.getElem?_eq_some_iff.1 vy7).1).trans vy7
    have iy8 := (iy7.below t8 (Nat.le_refl _)).more t8.size
    have oy8 := (oy7.below t8 (Nat.le_refl _)).more t8.size
    refine hK.out _ _ (hSk y8 gy8) (fun _ => ?_)
    clear hK K
    (try simp only [Act.put, u1, u2, u3])
    refine rk 5 rfl (fun K hK => ?_)
    go_simp
    go_at_call 8
    have hsp := specIssueA y8 y8.heap.size va oa xs.length xs.length l.length l.length xs l kind qty dv sq item iy8 oy8 (Nat.le_refl _) (capsI iy8 hxl) (capsO oy8 hlo) hi8 dev HIt.out hxl hlo
    rw [HR.out] at hsp
    refine hsp.mono ?_
    rintro e y9 ⟨sva, svc, soa, soc, rfl, hiR, hoR, t9, _, _⟩
    have gy9 : Below w3.heap.size w3 y9 := gy8.trans (t9.mono gy8.size)
    have sy9 := t9.size
    have vy9 := (t9.block _ (Array.getElem?_eq_some_iff.1 vy8).1).trans vy8
    have sgy9 := gy8.size
    refine hK.out _ _ (hSk y9 gy9) (fun _ => ?_)
    clear hK K
    (try simp only [Act.put, u1, u2, u3])
    refine tk 6 ⟨some 28, .move (.tmp 34), 33, "exact.go:2655", #[⟨5, .data⟩], none⟩ ?_
    (try simp only [Act.put, u1, u2, u3])
    refine tk 7 ⟨some 35, .extract (.tmp 28) 0, 32, "exact.go:2655", #[⟨6, .data⟩], none⟩ ?_
    (try simp only [Act.put, u1, u2, u3])
    refine tk 8 ⟨some 36, .extract (.tmp 28) 1, 2, "exact.go:2655", #[⟨6, .data⟩, { on := 10, ground := Ground.gcOnly Departure.lateStores }], none⟩ ?_
    (try simp only [Act.put, u1, u2, u3])
    exact wpAnyH_listed (l' := #[true, true, true, true, true, true, true, true, true, true, false, false]) (by kernel_rfl) (hT nW va oa sva svc soa soc y9 ⟨gy9, hge, vy9, ⟨y8.heap.size, y9.heap.size, hiR, hoR, by omega, by omega, by omega, by omega⟩⟩)
  ·
   have t10 : Below w3.heap.size w3 (w3.alloc (.cells #[.slice none 0 0, .slice none 0 0] 32)) := bl
   have hSy10 := hSk (w3.alloc (.cells #[.slice none 0 0, .slice none 0 0] 32)) (g0.trans (t10.mono g0.size))
   have vy10 : (w3.alloc (.cells #[.slice none 0 0, .slice none 0 0] 32)).heap[w3.heap.size]? = some (.cells #[.slice none 0 0, .slice none 0 0] 32 (0, 0)) := heap_alloc_new _ _
   go_simp
   refine hK.out _ _ hSy10 (fun _ => ?_)
   clear hK K hSy10
   (try simp only [Act.put, u1, u2, u3])
   generalize (w3.alloc (.cells #[.slice none 0 0, .slice none 0 0] 32)) = y10 at t10 vy10 ⊢
   have vly10 : w3.heap.size < y10.heap.size := (Array.getElem?_eq_some_iff.1 vy10).1
   have gy10 : Below w3.heap.size w3 y10 := g0.trans (t10.mono g0.size)
   have sy10 := t10.size
   obtain ⟨nW, hnW⟩ : ∃ nW, nW = w3.heap.size := ⟨_, rfl⟩
   have hge : w3.heap.size ≤ nW := by rw [hnW]; exact g0.size
   rw [← hnW] at vy10 ⊢
   have hnw1 : nW ≤ w3.heap.size := Nat.le_of_eq hnW
   have hnw2 : w3.heap.size ≤ nW := Nat.le_of_eq hnW.symm
   clear hnW
   refine rk 1 rfl (fun K hK => ?_)
   go_simp
   go_at_call 9
   refine (toCart y10 w.heap.size av ao nv cv no co xs l (HV3.out.below gy10 (by omega)) (HO3.out.below gy10 (by omega)) (by have := gy10.size; omega) hnv hno).mono ?_
   rintro e y11 ⟨va, oa, rfl, hiC, hoC, t11⟩
   have gy11 : Below w3.heap.size w3 y11 := gy10.trans (t11.mono gy10.size)
   have sy11 := t11.size
   have vy11 := (t11.block _ (Array.getElem?_eq_some_iff.1 vy10).1).trans vy10
   refine hK.out _ _ (hSk y11 gy11) (fun _ => ?_)
   clear hK K
   (try simp only [Act.put, u1, u2, u3])
   refine rk 4 rfl (fun K hK => ?_)
   go_simp
   go_at_call 10
   refine (toCmdL kind item qty dv sq y11).mono ?_
   rintro e y12 ⟨rfl, t12⟩
   have gy12 : Below w3.heap.size w3 y12 := gy11.trans (t12.mono gy11.size)
   have sy12 := t12.size
   have vy12 := (t12.block _ (Array.getElem?_eq_some_iff.1 vy11).1).trans vy11
   have iy12 := (hiC.below t12 (Nat.le_refl _)).more t12.size
   have oy12 := (hoC.below t12 (Nat.le_refl _)).more t12.size
   refine hK.out _ _ (hSk y12 gy12) (fun _ => ?_)
   clear hK K
   (try simp only [Act.put, u1, u2, u3])
   refine rk 5 rfl (fun K hK => ?_)
   go_simp
   go_at_call 8
   have hsp := specIssueA y12 y12.heap.size va oa xs.length xs.length l.length l.length xs l kind qty dv sq item iy12 oy12 (Nat.le_refl _) (capsI iy12 hxl) (capsO oy12 hlo) hi8 dev HIt.out hxl hlo
   rw [HR.out] at hsp
   refine hsp.mono ?_
   rintro e y13 ⟨sva, svc, soa, soc, rfl, hiR, hoR, t13, _, _⟩
   have gy13 : Below w3.heap.size w3 y13 := gy12.trans (t13.mono gy12.size)
   have sy13 := t13.size
   have vy13 := (t13.block _ (Array.getElem?_eq_some_iff.1 vy12).1).trans vy12
   have sgy13 := gy12.size
   refine hK.out _ _ (hSk y13 gy13) (fun _ => ?_)
   clear hK K
   (try simp only [Act.put, u1, u2, u3])
   refine tk 6 ⟨some 28, .move (.tmp 34), 33, "exact.go:2655", #[⟨5, .data⟩], none⟩ ?_
   (try simp only [Act.put, u1, u2, u3])
   refine tk 7 ⟨some 35, .extract (.tmp 28) 0, 32, "exact.go:2655", #[⟨6, .data⟩], none⟩ ?_
   (try simp only [Act.put, u1, u2, u3])
   refine tk 8 ⟨some 36, .extract (.tmp 28) 1, 2, "exact.go:2655", #[⟨6, .data⟩, { on := 10, ground := Ground.gcOnly Departure.lateStores }], none⟩ ?_
   (try simp only [Act.put, u1, u2, u3])
   exact wpAnyH_listed (l' := #[true, true, true, true, true, true, true, true, true, true, false, false]) (by kernel_rfl) (hT nW va oa sva svc soa soc y13 ⟨gy13, hge, vy13, ⟨y12.heap.size, y13.heap.size, hiR, hoR, by omega, by omega, by omega, by omega⟩⟩)
 case h2 =>
  intro nN vA oA sva svc soa soc w4 ⟨gz, sbge, hN, slo, shi, hiR, hoR, sb1, sb2, sb3, sb4⟩
  obtain ⟨c0, c1⟩ := pair_cells hN
  obtain ⟨x0, x1⟩ := pair_frozen hN
  have gW : Below w3.heap.size w3 ((w4.setCell ⟨nN, 0, none⟩ (.slice sva r.2.1.length svc)).setCell ⟨nN, 1, none⟩ (.slice soa r.2.2.length soc)) := (gz.setCell (p := ⟨nN, 0, none⟩) sbge _).setCell (p := ⟨nN, 1, none⟩) sbge _
  have hSW := hSk _ gW
  refine rk 10 rfl (fun K hK => ?_)
  go_simp
  refine hK.out _ _ hSW (fun hHeld9 => ?_)
  clear hK K
  (try simp only [Act.put, u1, u2, u3])
  refine tk 11 ⟨some 9, .assign (.tmp 36), 2, "exact.go:2655", #[⟨8, .data⟩, ⟨10, .chain⟩, ⟨0, .phase⟩, ⟨1, .phase⟩, ⟨2, .phase⟩, ⟨3, .phase⟩, ⟨4, .phase⟩, ⟨5, .phase⟩, ⟨6, .phase⟩, ⟨7, .phase⟩, ⟨8, .phase⟩, ⟨9, .phase⟩, ⟨10, .phase⟩], none⟩ ?_
  (try simp only [Act.put, u1, u2, u3])
  refine wpAnyH_done (by kernel_rfl) ?_ _
  have HS5 : Hid (Own ((w4.setCell ⟨nN, 0, none⟩ (.slice sva r.2.1.length svc)).setCell ⟨nN, 1, none⟩ (.slice soa r.2.2.length soc)) slo shi sva r.2.1.length r.2.1) := hiR.kept (fun j a b => pair_other _ _ (by omega))
  have HT5 : Hid (OwnOps ((w4.setCell ⟨nN, 0, none⟩ (.slice sva r.2.1.length svc)).setCell ⟨nN, 1, none⟩ (.slice soa r.2.2.length soc)) slo shi soa r.2.2.length r.2.2) := hoR.kept (fun j a b => pair_other _ _ (by omega))
  have HN5 : Hid (((w4.setCell ⟨nN, 0, none⟩ (.slice sva r.2.1.length svc)).setCell ⟨nN, 1, none⟩ (.slice soa r.2.2.length soc)).heap[nN]? = some (.cells #[.slice sva r.2.1.length svc, .slice soa r.2.2.length soc] 32 (0, 0))) := pair_set _ _ hN
  have hsz5 : ((w4.setCell ⟨nN, 0, none⟩ (.slice sva r.2.1.length svc)).setCell ⟨nN, 1, none⟩ (.slice soa r.2.2.length soc)).heap.size = w4.heap.size := pair_size _ _ _ _
  clear c0 c1 x0 x1 hSW hN hiR hoR hHeld hSk gz
  generalize ((w4.setCell ⟨nN, 0, none⟩ (.slice sva r.2.1.length svc)).setCell ⟨nN, 1, none⟩ (.slice soa r.2.2.length soc)) = w5 at gW HS5 HT5 HN5 hsz5 ⊢
  apply hKR
  clear hKR KR
  have hnl5 : nN < w5.heap.size := (Array.getElem?_eq_some_iff.1 HN5.out).1
  have hs5 := gW.size
  have HX5 := Lib.hid ((gW.block _ (Array.getElem?_eq_some_iff.1 HX3.out).1).trans HX3.out)
  have HQ5 := Lib.hid ((gW.block _ (Array.getElem?_eq_some_iff.1 HQ3.out).1).trans HQ3.out)
  have HV5 := Lib.hid (HV3.out.below gW (by omega))
  have HO5 := Lib.hid (HO3.out.below gW (by omega))
  have HE5 := Lib.hid (HE3.out.below gW (by omega))
  have HB5 := Lib.hid (HB3.out.trans (gW.mono (by omega)))
  clear gW HX3 HQ3 HV3 HO3 HE3 HB3
  obtain ⟨c0, c1⟩ := pair_cells HX5.out
  go_wp2_with fail
  refine (toCartO w5 w.heap.size av ao nv cv no co xs l HV5.out HO5.out (by omega) hnv hno).mono ?_
  rintro e w6 ⟨ga, gb, mid, rfl, hgA, hm1A, hm2A, hi, ho, hb⟩
  clear c0 c1
  have hs6 := hb.size
  have HX6 := Lib.hid ((hb.block _ (Array.getElem?_eq_some_iff.1 HX5.out).1).trans HX5.out)
  have HQ6 := Lib.hid ((hb.block _ (Array.getElem?_eq_some_iff.1 HQ5.out).1).trans HQ5.out)
  have HV6 := Lib.hid (HV5.out.below hb (by omega))
  have HO6 := Lib.hid (HO5.out.below hb (by omega))
  have HE6 := Lib.hid (HE5.out.below hb (by omega))
  have HB6 := Lib.hid (HB5.out.trans (hb.mono (by omega)))
  have HS6 := Lib.hid (HS5.out.below hb (by omega))
  have HT6 := Lib.hid (HT5.out.below hb (by omega))
  have HN6 := Lib.hid ((hb.block _ (Array.getElem?_eq_some_iff.1 HN5.out).1).trans HN5.out)
  clear hb HX5 HQ5 HV5 HO5 HE5 HB5 HS5 HT5 HN5
  have HI6 := Lib.hid hi
  have HG6 := Lib.hid ho
  clear hi ho
  generalize hn5 : w5.heap.size = n5 at HI6 hs5 hs6 hm1A hnl5 hsz5
  generalize hn6 : w6.heap.size = n6 at HG6 hm2A hs6
  go_upto_region 10 with fail
  have hb : Below w6.heap.size w6 (w6.alloc (.cells #[.slice ga xs.length xs.length, .slice gb l.length l.length] 32)) := bl
  have HY7 := Lib.hid (heap_alloc_new w6 (.cells #[.slice ga xs.length xs.length, .slice gb l.length l.length] 32))
  have hy7 : w6.heap.size + 1 ≤ (w6.alloc (.cells #[.slice ga xs.length xs.length, .slice gb l.length l.length] 32)).heap.size := by show _ ≤ (w6.heap.push _).size; simp
  generalize w6.alloc (.cells #[.slice ga xs.length xs.length, .slice gb l.length l.length] 32) = w7 at hb HY7 hy7 ⊢
  have hs7 := hb.size
  have HX7 := Lib.hid ((hb.block _ (Array.getElem?_eq_some_iff.1 HX6.out).1).trans HX6.out)
  have HQ7 := Lib.hid ((hb.block _ (Array.getElem?_eq_some_iff.1 HQ6.out).1).trans HQ6.out)
  have HV7 := Lib.hid (HV6.out.below hb (by omega))
  have HO7 := Lib.hid (HO6.out.below hb (by omega))
  have HE7 := Lib.hid (HE6.out.below hb (by omega))
  have HB7 := Lib.hid (HB6.out.trans (hb.mono (by omega)))
  have HS7 := Lib.hid (HS6.out.below hb (by omega))
  have HT7 := Lib.hid (HT6.out.below hb (by omega))
  have HN7 := Lib.hid ((hb.block _ (Array.getElem?_eq_some_iff.1 HN6.out).1).trans HN6.out)
  have HI7 := Lib.hid (HI6.out.below hb (by omega))
  have HG7 := Lib.hid (HG6.out.below hb (by omega))
  clear hb HX6 HQ6 HV6 HO6 HE6 HB6 HS6 HT6 HN6 HI6 HG6
  rw [hn6] at HY7 hs7 hy7
  (try rw [hn6])
  clear hn5 hn6
  go_upto_region 10 with fail
  rename_i KR hKR
  obtain ⟨w8, hz⟩ : ∃ z, z = w7.drew := ⟨_, rfl⟩
  have hb : Below w7.heap.size w7 w8 := by rw [hz]; exact ⟨rfl, rfl, rfl, Nat.le_refl _, fun _ _ => rfl⟩
  have hs8 := hb.size
  have HX8 := Lib.hid ((hb.block _ (Array.getElem?_eq_some_iff.1 HX7.out).1).trans HX7.out)
  have HQ8 := Lib.hid ((hb.block _ (Array.getElem?_eq_some_iff.1 HQ7.out).1).trans HQ7.out)
  have HV8 := Lib.hid (HV7.out.below hb (by omega))
  have HO8 := Lib.hid (HO7.out.below hb (by omega))
  have HE8 := Lib.hid (HE7.out.below hb (by omega))
  have HB8 := Lib.hid (HB7.out.trans (hb.mono (by omega)))
  have HS8 := Lib.hid (HS7.out.below hb (by omega))
  have HT8 := Lib.hid (HT7.out.below hb (by omega))
  have HN8 := Lib.hid ((hb.block _ (Array.getElem?_eq_some_iff.1 HN7.out).1).trans HN7.out)
  have HI8 := Lib.hid (HI7.out.below hb (by omega))
  have HG8 := Lib.hid (HG7.out.below hb (by omega))
  have HY8 := Lib.hid ((hb.block _ (Array.getElem?_eq_some_iff.1 HY7.out).1).trans HY7.out)
  clear hb HX7 HQ7 HV7 HO7 HE7 HB7 HS7 HT7 HN7 HI7 HG7 HY7
  have hSk : ∀ z, Below w8.heap.size w8 z → z.cell? ⟨n6, 0, none⟩ = some (.slice ga xs.length xs.length) ∧ z.cell? ⟨n6, 1, none⟩ = some (.slice gb l.length l.length) ∧ z.cell? ⟨w.heap.size + 1, 0, none⟩ = some (.int .i64 kind) ∧ z.cell? ⟨w.heap.size + 1, 1, none⟩ = some (.string item) ∧ z.cell? ⟨w.heap.size + 1, 2, none⟩ = some (.int .i64 qty) ∧ z.cell? ⟨w.heap.size + 1, 3, none⟩ = some (.int .i64 dv) ∧ z.cell? ⟨w.heap.size + 1, 4, none⟩ = some (.int .i64 sq) := fun z hb => by
   obtain ⟨c0, c1⟩ := pair_cells ((hb.block _ (Array.getElem?_eq_some_iff.1 HY8.out).1).trans HY8.out)
   obtain ⟨d0, d1, d2, d3, d4⟩ := cmd_cells5 ((hb.block _ (Array.getElem?_eq_some_iff.1 HQ8.out).1).trans HQ8.out)
   exact ⟨c0, c1, d0, d1, d2, d3, d4⟩
  refine wp_region_held_drew (S := fun w' => w'.cell? ⟨n6, 0, none⟩ = some (.slice ga xs.length xs.length) ∧ w'.cell? ⟨n6, 1, none⟩ = some (.slice gb l.length l.length) ∧ w'.cell? ⟨w.heap.size + 1, 0, none⟩ = some (.int .i64 kind) ∧ w'.cell? ⟨w.heap.size + 1, 1, none⟩ = some (.string item) ∧ w'.cell? ⟨w.heap.size + 1, 2, none⟩ = some (.int .i64 qty) ∧ w'.cell? ⟨w.heap.size + 1, 3, none⟩ = some (.int .i64 dv) ∧ w'.cell? ⟨w.heap.size + 1, 4, none⟩ = some (.int .i64 sq)) (by kernel_rfl) (by rw [← hz]; exact hSk w8 (Below.refl _ _)) (fun hHeld => ?_)
  rw [← hz] at hHeld ⊢
  clear hz
  refine tk 0 ⟨some 40, .load 32 (.tmp 10), 32, "exact.go:2657", #[], none⟩ ?_
  (try simp only [Act.put, u1, u2, u3])
  refine tk 1 ⟨some 41, .move (.tmp 1), 2, "exact.go:2657", #[], none⟩ ?_
  (try simp only [Act.put, u1, u2, u3])
  refine tk 2 ⟨some 42, .load 27 (.tmp 5), 27, "exact.go:2657", #[], none⟩ ?_
  (try simp only [Act.put, u1, u2, u3])
  apply share6 (F := fun nW sva svc soa soc wT => Below w8.heap.size w8 wT ∧ w8.heap.size ≤ nW ∧ wT.heap[nW]? = some (.cells #[.slice none 0 0, .slice none 0 0] 32 (0, 0)) ∧ ∃ lo mid hi, Own wT lo mid sva r.2.1.length r.2.1 ∧ OwnOps wT mid hi soa r.2.2.length r.2.2 ∧ w8.heap.size ≤ lo ∧ lo ≤ mid ∧ mid ≤ hi ∧ hi ≤ wT.heap.size ∧ (nW < lo ∨ hi ≤ nW))
  case h1 =>
   intro hT
   have g0 : Below w8.heap.size w8 w8 := Below.refl _ _
   refine wpAnyH_ready (rs := [3, 8]) (by kernel_rfl) (by simp) ?_
   refine AllReadyH.cons rfl (fun K hK => ?_) (AllReadyH.cons rfl (fun K hK => ?_) AllReadyH.nil)
   ·
    go_simp
    go_at_call 10
    refine (toCmdL kind item qty dv sq w8).mono ?_
    rintro e y14 ⟨rfl, t14⟩
    have gy14 : Below w8.heap.size w8 y14 := g0.trans (t14.mono g0.size)
    have sy14 := t14.size
    refine hK.out _ _ (hSk y14 gy14) (fun _ => ?_)
    clear hK K
    (try simp only [Act.put, u1, u2, u3])
    refine wpAnyH_ready (rs := [4, 8]) (by kernel_rfl) (by simp) ?_
    refine AllReadyH.cons rfl (fun K hK => ?_) (AllReadyH.cons rfl (fun K hK => ?_) AllReadyH.nil)
    ·
     go_simp
     go_at_call 11
     have hiX := (HI8.out.ints.below gy14 (by omega)).more (B' := y14.heap.size) (by have := gy14.size; omega)
     have hoX := (HG8.out.ops.below gy14 (by omega)).more (B' := y14.heap.size) (by have := gy14.size; omega)
     have hsp := implIssueA y14 y14.heap.size E ((HE8.out.below gy14 (by omega)).up (by have := gy14.size; omega)) ga gb xs.length xs.length l.length l.length xs l dev kind qty dv sq item hiX hoX (Nat.le_refl _) (Nat.le_refl _) (capsO hoX hlo) hxl hlo hi8
     rw [HR.out] at hsp
     refine hsp.mono ?_
     rintro e y15 ⟨sva, svc, soa, soc, gm, rfl, hiR, hoR, hgm1, hgm2, _, _, t15⟩
     have gy15 : Below w8.heap.size w8 y15 := gy14.trans (t15.mono gy14.size)
     have sy15 := t15.size
     have sgy15 := gy14.size
     refine hK.out _ _ (hSk y15 gy15) (fun _ => ?_)
     clear hK K
     (try simp only [Act.put, u1, u2, u3])
     refine tk 5 ⟨some 39, .move (.tmp 44), 33, "exact.go:2657", #[⟨4, .data⟩], none⟩ ?_
     (try simp only [Act.put, u1, u2, u3])
     refine tk 6 ⟨some 45, .extract (.tmp 39) 0, 32, "exact.go:2657", #[⟨5, .data⟩], none⟩ ?_
     (try simp only [Act.put, u1, u2, u3])
     refine tk 7 ⟨some 46, .extract (.tmp 39) 1, 2, "exact.go:2657", #[⟨5, .data⟩, { on := 9, ground := Ground.gcOnly Departure.lateStores }], none⟩ ?_
     (try simp only [Act.put, u1, u2, u3])
     refine rk 8 rfl (fun K hK => ?_)
     have t16 : Below y15.heap.size y15 (y15.alloc (.cells #[.slice none 0 0, .slice none 0 0] 32)) := bl
     have hSy16 := hSk (y15.alloc (.cells #[.slice none 0 0, .slice none 0 0] 32)) (gy15.trans (t16.mono gy15.size))
     have vy16 : (y15.alloc (.cells #[.slice none 0 0, .slice none 0 0] 32)).heap[y15.heap.size]? = some (.cells #[.slice none 0 0, .slice none 0 0] 32 (0, 0)) := heap_alloc_new _ _
     go_simp
     refine hK.out _ _ hSy16 (fun _ => ?_)
     clear hK K hSy16
     (try simp only [Act.put, u1, u2, u3])
     generalize (y15.alloc (.cells #[.slice none 0 0, .slice none 0 0] 32)) = y16 at t16 vy16 ⊢
     have vly16 : y15.heap.size < y16.heap.size := (Array.getElem?_eq_some_iff.1 vy16).1
     have gy16 : Below w8.heap.size w8 y16 := gy15.trans (t16.mono gy15.size)
     have sy16 := t16.size
     have py16 := hiR.below t16 (by omega)
     have qy16 := hoR.below t16 (by omega)
     obtain ⟨nW, hnW⟩ : ∃ nW, nW = y15.heap.size := ⟨_, rfl⟩
     have hge : w8.heap.size ≤ nW := by rw [hnW]; exact gy15.size
     rw [← hnW] at vy16 ⊢
     have hnw1 : nW ≤ y15.heap.size := Nat.le_of_eq hnW
     have hnw2 : y15.heap.size ≤ nW := Nat.le_of_eq hnW.symm
     clear hnW
     exact wpAnyH_listed (l' := #[true, true, true, true, true, true, true, true, true, false, false]) (by kernel_rfl) (hT nW sva svc soa soc y16 ⟨gy16, hge, vy16, ⟨y14.heap.size, gm, y15.heap.size, py16, qy16, by omega, by omega, by omega, by omega, by omega⟩⟩)
    ·
     have t17 : Below y14.heap.size y14 (y14.alloc (.cells #[.slice none 0 0, .slice none 0 0] 32)) := bl
     have hSy17 := hSk (y14.alloc (.cells #[.slice none 0 0, .slice none 0 0] 32)) (gy14.trans (t17.mono gy14.size))
     have vy17 : (y14.alloc (.cells #[.slice none 0 0, .slice none 0 0] 32)).heap[y14.heap.size]? = some (.cells #[.slice none 0 0, .slice none 0 0] 32 (0, 0)) := heap_alloc_new _ _
     go_simp
     refine hK.out _ _ hSy17 (fun _ => ?_)
     clear hK K hSy17
     (try simp only [Act.put, u1, u2, u3])
     generalize (y14.alloc (.cells #[.slice none 0 0, .slice none 0 0] 32)) = y17 at t17 vy17 ⊢
     have vly17 : y14.heap.size < y17.heap.size := (Array.getElem?_eq_some_iff.1 vy17).1
     have gy17 : Below w8.heap.size w8 y17 := gy14.trans (t17.mono gy14.size)
     have sy17 := t17.size
     obtain ⟨nW, hnW⟩ : ∃ nW, nW = y14.heap.size := ⟨_, rfl⟩
     have hge : w8.heap.size ≤ nW := by rw [hnW]; exact gy14.size
     rw [← hnW] at vy17 ⊢
     have hnw1 : nW ≤ y14.heap.size := Nat.le_of_eq hnW
     have hnw2 : y14.heap.size ≤ nW := Nat.le_of_eq hnW.symm
     clear hnW
     refine rk 4 rfl (fun K hK => ?_)
     go_simp
     go_at_call 11
     have hiX := (HI8.out.ints.below gy17 (by omega)).more (B' := y17.heap.size) (by have := gy17.size; omega)
     have hoX := (HG8.out.ops.below gy17 (by omega)).more (B' := y17.heap.size) (by have := gy17.size; omega)
     have hsp := implIssueA y17 y17.heap.size E ((HE8.out.below gy17 (by omega)).up (by have := gy17.size; omega)) ga gb xs.length xs.length l.length l.length xs l dev kind qty dv sq item hiX hoX (Nat.le_refl _) (Nat.le_refl _) (capsO hoX hlo) hxl hlo hi8
     rw [HR.out] at hsp
     refine hsp.mono ?_
     rintro e y18 ⟨sva, svc, soa, soc, gm, rfl, hiR, hoR, hgm1, hgm2, _, _, t18⟩
     have gy18 : Below w8.heap.size w8 y18 := gy17.trans (t18.mono gy17.size)
     have sy18 := t18.size
     have vy18 := (t18.block _ (Array.getElem?_eq_some_iff.1 vy17).1).trans vy17
     have sgy18 := gy17.size
     refine hK.out _ _ (hSk y18 gy18) (fun _ => ?_)
     clear hK K
     (try simp only [Act.put, u1, u2, u3])
     refine tk 5 ⟨some 39, .move (.tmp 44), 33, "exact.go:2657", #[⟨4, .data⟩], none⟩ ?_
     (try simp only [Act.put, u1, u2, u3])
     refine tk 6 ⟨some 45, .extract (.tmp 39) 0, 32, "exact.go:2657", #[⟨5, .data⟩], none⟩ ?_
     (try simp only [Act.put, u1, u2, u3])
     refine tk 7 ⟨some 46, .extract (.tmp 39) 1, 2, "exact.go:2657", #[⟨5, .data⟩, { on := 9, ground := Ground.gcOnly Departure.lateStores }], none⟩ ?_
     (try simp only [Act.put, u1, u2, u3])
     exact wpAnyH_listed (l' := #[true, true, true, true, true, true, true, true, true, false, false]) (by kernel_rfl) (hT nW sva svc soa soc y18 ⟨gy18, hge, vy18, ⟨y17.heap.size, gm, y18.heap.size, hiR, hoR, by omega, by omega, by omega, by omega, by omega⟩⟩)
   ·
    have t19 : Below w8.heap.size w8 (w8.alloc (.cells #[.slice none 0 0, .slice none 0 0] 32)) := bl
    have hSy19 := hSk (w8.alloc (.cells #[.slice none 0 0, .slice none 0 0] 32)) (g0.trans (t19.mono g0.size))
    have vy19 : (w8.alloc (.cells #[.slice none 0 0, .slice none 0 0] 32)).heap[w8.heap.size]? = some (.cells #[.slice none 0 0, .slice none 0 0] 32 (0, 0)) := heap_alloc_new _ _
    go_simp
    refine hK.out _ _ hSy19 (fun _ => ?_)
    clear hK K hSy19
    (try simp only [Act.put, u1, u2, u3])
    generalize (w8.alloc (.cells #[.slice none 0 0, .slice none 0 0] 32)) = y19 at t19 vy19 ⊢
    have vly19 : w8.heap.size < y19.heap.size := (Array.getElem?_eq_some_iff.1 vy19).1
    have gy19 : Below w8.heap.size w8 y19 := g0.trans (t19.mono g0.size)
    have sy19 := t19.size
    obtain ⟨nW, hnW⟩ : ∃ nW, nW = w8.heap.size := ⟨_, rfl⟩
    have hge : w8.heap.size ≤ nW := by rw [hnW]; exact g0.size
    rw [← hnW] at vy19 ⊢
    have hnw1 : nW ≤ w8.heap.size := Nat.le_of_eq hnW
    have hnw2 : w8.heap.size ≤ nW := Nat.le_of_eq hnW.symm
    clear hnW
    refine rk 3 rfl (fun K hK => ?_)
    go_simp
    go_at_call 10
    refine (toCmdL kind item qty dv sq y19).mono ?_
    rintro e y20 ⟨rfl, t20⟩
    have gy20 : Below w8.heap.size w8 y20 := gy19.trans (t20.mono gy19.size)
    have sy20 := t20.size
    have vy20 := (t20.block _ (Array.getElem?_eq_some_iff.1 vy19).1).trans vy19
    refine hK.out _ _ (hSk y20 gy20) (fun _ => ?_)
    clear hK K
    (try simp only [Act.put, u1, u2, u3])
    refine rk 4 rfl (fun K hK => ?_)
    go_simp
    go_at_call 11
    have hiX := (HI8.out.ints.below gy20 (by omega)).more (B' := y20.heap.size) (by have := gy20.size; omega)
    have hoX := (HG8.out.ops.below gy20 (by omega)).more (B' := y20.heap.size) (by have := gy20.size; omega)
    have hsp := implIssueA y20 y20.heap.size E ((HE8.out.below gy20 (by omega)).up (by have := gy20.size; omega)) ga gb xs.length xs.length l.length l.length xs l dev kind qty dv sq item hiX hoX (Nat.le_refl _) (Nat.le_refl _) (capsO hoX hlo) hxl hlo hi8
    rw [HR.out] at hsp
    refine hsp.mono ?_
    rintro e y21 ⟨sva, svc, soa, soc, gm, rfl, hiR, hoR, hgm1, hgm2, _, _, t21⟩
    have gy21 : Below w8.heap.size w8 y21 := gy20.trans (t21.mono gy20.size)
    have sy21 := t21.size
    have vy21 := (t21.block _ (Array.getElem?_eq_some_iff.1 vy20).1).trans vy20
    have sgy21 := gy20.size
    refine hK.out _ _ (hSk y21 gy21) (fun _ => ?_)
    clear hK K
    (try simp only [Act.put, u1, u2, u3])
    refine tk 5 ⟨some 39, .move (.tmp 44), 33, "exact.go:2657", #[⟨4, .data⟩], none⟩ ?_
    (try simp only [Act.put, u1, u2, u3])
    refine tk 6 ⟨some 45, .extract (.tmp 39) 0, 32, "exact.go:2657", #[⟨5, .data⟩], none⟩ ?_
    (try simp only [Act.put, u1, u2, u3])
    refine tk 7 ⟨some 46, .extract (.tmp 39) 1, 2, "exact.go:2657", #[⟨5, .data⟩, { on := 9, ground := Ground.gcOnly Departure.lateStores }], none⟩ ?_
    (try simp only [Act.put, u1, u2, u3])
    exact wpAnyH_listed (l' := #[true, true, true, true, true, true, true, true, true, false, false]) (by kernel_rfl) (hT nW sva svc soa soc y21 ⟨gy21, hge, vy21, ⟨y20.heap.size, gm, y21.heap.size, hiR, hoR, by omega, by omega, by omega, by omega, by omega⟩⟩)
  case h2 =>
   intro nD gva gvc goa goc w9 ⟨gz, gbge, hN, glo, gm, ghi, hiR, hoR, gb1, gb2, gb3, gb5, gb4⟩
   obtain ⟨c0, c1⟩ := pair_cells hN
   obtain ⟨x0, x1⟩ := pair_frozen hN
   have gW : Below w8.heap.size w8 ((w9.setCell ⟨nD, 0, none⟩ (.slice gva r.2.1.length gvc)).setCell ⟨nD, 1, none⟩ (.slice goa r.2.2.length goc)) := (gz.setCell (p := ⟨nD, 0, none⟩) gbge _).setCell (p := ⟨nD, 1, none⟩) gbge _
   have hSW := hSk _ gW
   refine rk 9 rfl (fun K hK => ?_)
   go_simp
   refine hK.out _ _ hSW (fun hHeld9 => ?_)
   clear hK K
   (try simp only [Act.put, u1, u2, u3])
   refine tk 10 ⟨some 12, .assign (.tmp 46), 2, "exact.go:2657", #[⟨7, .data⟩, ⟨9, .chain⟩, ⟨0, .phase⟩, ⟨1, .phase⟩, ⟨2, .phase⟩, ⟨3, .phase⟩, ⟨4, .phase⟩, ⟨5, .phase⟩, ⟨6, .phase⟩, ⟨7, .phase⟩, ⟨8, .phase⟩, ⟨9, .phase⟩], none⟩ ?_
   (try simp only [Act.put, u1, u2, u3])
   refine wpAnyH_done (by kernel_rfl) ?_ _
   have HA10 : Hid (Own ((w9.setCell ⟨nD, 0, none⟩ (.slice gva r.2.1.length gvc)).setCell ⟨nD, 1, none⟩ (.slice goa r.2.2.length goc)) glo gm gva r.2.1.length r.2.1) := hiR.kept (fun j a b => pair_other _ _ (by omega))
   have HC10 : Hid (OwnOps ((w9.setCell ⟨nD, 0, none⟩ (.slice gva r.2.1.length gvc)).setCell ⟨nD, 1, none⟩ (.slice goa r.2.2.length goc)) gm ghi goa r.2.2.length r.2.2) := hoR.kept (fun j a b => pair_other _ _ (by omega))
   have HD10 : Hid (((w9.setCell ⟨nD, 0, none⟩ (.slice gva r.2.1.length gvc)).setCell ⟨nD, 1, none⟩ (.slice goa r.2.2.length goc)).heap[nD]? = some (.cells #[.slice gva r.2.1.length gvc, .slice goa r.2.2.length goc] 32 (0, 0))) := pair_set _ _ hN
   have hsz10 : ((w9.setCell ⟨nD, 0, none⟩ (.slice gva r.2.1.length gvc)).setCell ⟨nD, 1, none⟩ (.slice goa r.2.2.length goc)).heap.size = w9.heap.size := pair_size _ _ _ _
   clear c0 c1 x0 x1 hSW hN hiR hoR hHeld hSk gz
   generalize ((w9.setCell ⟨nD, 0, none⟩ (.slice gva r.2.1.length gvc)).setCell ⟨nD, 1, none⟩ (.slice goa r.2.2.length goc)) = w10 at gW HA10 HC10 HD10 hsz10 ⊢
   apply hKR
   clear hKR KR
   have hnl10 : nD < w10.heap.size := (Array.getElem?_eq_some_iff.1 HD10.out).1
   have hs10 := gW.size
   have HX10 := Lib.hid ((gW.block _ (Array.getElem?_eq_some_iff.1 HX8.out).1).trans HX8.out)
   have HQ10 := Lib.hid ((gW.block _ (Array.getElem?_eq_some_iff.1 HQ8.out).1).trans HQ8.out)
   have HV10 := Lib.hid (HV8.out.below gW (by omega))
   have HO10 := Lib.hid (HO8.out.below gW (by omega))
   have HE10 := Lib.hid (HE8.out.below gW (by omega))
   have HB10 := Lib.hid (HB8.out.trans (gW.mono (by omega)))
   have HS10 := Lib.hid (HS8.out.below gW (by omega))
   have HT10 := Lib.hid (HT8.out.below gW (by omega))
   have HN10 := Lib.hid ((gW.block _ (Array.getElem?_eq_some_iff.1 HN8.out).1).trans HN8.out)
   have HI10 := Lib.hid (HI8.out.below gW (by omega))
   have HG10 := Lib.hid (HG8.out.below gW (by omega))
   have HY10 := Lib.hid ((gW.block _ (Array.getElem?_eq_some_iff.1 HY8.out).1).trans HY8.out)
   clear gW HX8 HQ8 HV8 HO8 HE8 HB8 HS8 HT8 HN8 HI8 HG8 HY8
   obtain ⟨c0, c1⟩ := pair_cells HD10.out
   obtain ⟨e0, e1⟩ := pair_cells HN10.out
   go_wp2_with fail
   refine (eqCartV w10 gva sva goa soa _ _ _ _ r.2.1 r.2.2 (HA10.out.ints.more (by omega)) (HS10.out.ints.more (by omega)) (HC10.out.ops.more (by omega)) (HT10.out.ops.more (by omega)) (by omega) (by omega)).mono ?_
   rintro e w11 ⟨rfl, hb⟩
   clear c0 c1 e0 e1
   have hs11 := hb.size
   have HX11 := Lib.hid ((hb.block _ (Array.getElem?_eq_some_iff.1 HX10.out).1).trans HX10.out)
   have HQ11 := Lib.hid ((hb.block _ (Array.getElem?_eq_some_iff.1 HQ10.out).1).trans HQ10.out)
   have HV11 := Lib.hid (HV10.out.below hb (by omega))
   have HO11 := Lib.hid (HO10.out.below hb (by omega))
   have HE11 := Lib.hid (HE10.out.below hb (by omega))
   have HB11 := Lib.hid (HB10.out.trans (hb.mono (by omega)))
   have HS11 := Lib.hid (HS10.out.below hb (by omega))
   have HT11 := Lib.hid (HT10.out.below hb (by omega))
   have HN11 := Lib.hid ((hb.block _ (Array.getElem?_eq_some_iff.1 HN10.out).1).trans HN10.out)
   have HI11 := Lib.hid (HI10.out.below hb (by omega))
   have HG11 := Lib.hid (HG10.out.below hb (by omega))
   have HY11 := Lib.hid ((hb.block _ (Array.getElem?_eq_some_iff.1 HY10.out).1).trans HY10.out)
   have HA11 := Lib.hid (HA10.out.below hb (by omega))
   have HC11 := Lib.hid (HC10.out.below hb (by omega))
   have HD11 := Lib.hid ((hb.block _ (Array.getElem?_eq_some_iff.1 HD10.out).1).trans HD10.out)
   clear hb HX10 HQ10 HV10 HO10 HE10 HB10 HS10 HT10 HN10 HI10 HG10 HY10 HA10 HC10 HD10
   have hS : w11.drew.cell? ⟨n6, 0, none⟩ = some (.slice ga xs.length xs.length) ∧ w11.drew.cell? ⟨n6, 1, none⟩ = some (.slice gb l.length l.length) ∧ w11.drew.cell? ⟨w.heap.size, 0, none⟩ = some (.slice av nv cv) ∧ w11.drew.cell? ⟨w.heap.size, 1, none⟩ = some (.slice ao no co) := ⟨(pair_cells HY11.out).1, (pair_cells HY11.out).2, (pair_cells HX11.out).1, (pair_cells HX11.out).2⟩
   go_wp2_with fail
   refine wp_region_held_drew (S := fun w' => w'.cell? ⟨n6, 0, none⟩ = some (.slice ga xs.length xs.length) ∧ w'.cell? ⟨n6, 1, none⟩ = some (.slice gb l.length l.length) ∧ w'.cell? ⟨w.heap.size, 0, none⟩ = some (.slice av nv cv) ∧ w'.cell? ⟨w.heap.size, 1, none⟩ = some (.slice ao no co)) (by kernel_rfl) hS (fun hHeld => ?_)
   refine tk 0 ⟨some 56, .load 32 (.tmp 10), 32, "exact.go:2661", #[], none⟩ ?_
   (try simp only [Act.put, u1, u2, u3])
   refine tk 1 ⟨some 57, .load 25 (.tmp 3), 25, "exact.go:2661", #[], none⟩ ?_
   (try simp only [Act.put, u1, u2, u3])
   refine rk 2 rfl (fun K hK => ?_)
   go_simp
   go_at_call 9
   refine (toCart w11.drew w.heap.size av ao nv cv no co xs l (HV11.out.kept (w' := w11.drew) fun _ _ => rfl) (HO11.out.kept (w' := w11.drew) fun _ _ => rfl) (by show _ ≤ w11.heap.size; omega) hnv hno).mono ?_
   rintro e z1 ⟨ka, kb, rfl, hi, ho, hbz⟩
   have hz1 : Below w11.heap.size w11 z1 := Below.mk hbz.os hbz.tape hbz.output hbz.size hbz.block
   have hS1 : z1.cell? ⟨n6, 0, none⟩ = some (.slice ga xs.length xs.length) ∧ z1.cell? ⟨n6, 1, none⟩ = some (.slice gb l.length l.length) ∧ z1.cell? ⟨w.heap.size, 0, none⟩ = some (.slice av nv cv) ∧ z1.cell? ⟨w.heap.size, 1, none⟩ = some (.slice ao no co) := ⟨(hbz.cell (block_lt_of_cell hS.1)).trans hS.1, (hbz.cell (block_lt_of_cell hS.2.1)).trans hS.2.1, (hbz.cell (block_lt_of_cell hS.2.2.1)).trans hS.2.2.1, (hbz.cell (block_lt_of_cell hS.2.2.2)).trans hS.2.2.2⟩
   refine hK.out _ _ hS1 (fun hHeld2 => ?_)
   clear hK K
   (try simp only [Act.put, u1, u2, u3])
   refine rk 3 rfl (fun K hK => ?_)
   go_simp
   go_at_call 12
   refine (eqCartV z1 ga ka gb kb _ _ _ _ xs l ((HI11.out.ints.below hz1 (by omega)).more (Nat.le_trans (by omega) hz1.size)) hi ((HG11.out.ops.below hz1 (by omega)).more (Nat.le_trans (by omega) hz1.size)) ho hxl hlo).mono ?_
   rintro e w12 ⟨rfl, hbw⟩
   have hS2 : w12.cell? ⟨n6, 0, none⟩ = some (.slice ga xs.length xs.length) ∧ w12.cell? ⟨n6, 1, none⟩ = some (.slice gb l.length l.length) ∧ w12.cell? ⟨w.heap.size, 0, none⟩ = some (.slice av nv cv) ∧ w12.cell? ⟨w.heap.size, 1, none⟩ = some (.slice ao no co) := ⟨(hbw.cell (block_lt_of_cell hS1.1)).trans hS1.1, (hbw.cell (block_lt_of_cell hS1.2.1)).trans hS1.2.1, (hbw.cell (block_lt_of_cell hS1.2.2.1)).trans hS1.2.2.1, (hbw.cell (block_lt_of_cell hS1.2.2.2)).trans hS1.2.2.2⟩
   refine hK.out _ _ hS2 (fun hHeld3 => ?_)
   clear hK K
   (try simp only [Act.put, u1, u2, u3])
   refine tk 4 ⟨some 60, .unOp .not 4 (.tmp 59), 4, "exact.go:2661", #[⟨3, .data⟩], none⟩ ?_
   (try simp only [Act.put, u1, u2, u3])
   refine wpAnyH_done (by kernel_rfl) ?_ _
   have hb : Below w11.heap.size w11 w12 := hz1.trans (hbw.mono hz1.size)
   clear hS hS1 hS2 hHeld hHeld2 hHeld3 hz1 hbz hbw hi ho
   have hs12 := hb.size
   have HX12 := Lib.hid ((hb.block _ (Array.getElem?_eq_some_iff.1 HX11.out).1).trans HX11.out)
   have HQ12 := Lib.hid ((hb.block _ (Array.getElem?_eq_some_iff.1 HQ11.out).1).trans HQ11.out)
   have HV12 := Lib.hid (HV11.out.below hb (by omega))
   have HO12 := Lib.hid (HO11.out.below hb (by omega))
   have HE12 := Lib.hid (HE11.out.below hb (by omega))
   have HB12 := Lib.hid (HB11.out.trans (hb.mono (by omega)))
   have HS12 := Lib.hid (HS11.out.below hb (by omega))
   have HT12 := Lib.hid (HT11.out.below hb (by omega))
   have HN12 := Lib.hid ((hb.block _ (Array.getElem?_eq_some_iff.1 HN11.out).1).trans HN11.out)
   have HI12 := Lib.hid (HI11.out.below hb (by omega))
   have HG12 := Lib.hid (HG11.out.below hb (by omega))
   have HY12 := Lib.hid ((hb.block _ (Array.getElem?_eq_some_iff.1 HY11.out).1).trans HY11.out)
   have HA12 := Lib.hid (HA11.out.below hb (by omega))
   have HC12 := Lib.hid (HC11.out.below hb (by omega))
   have HD12 := Lib.hid ((hb.block _ (Array.getElem?_eq_some_iff.1 HD11.out).1).trans HD11.out)
   clear hb HX11 HQ11 HV11 HO11 HE11 HB11 HS11 HT11 HN11 HI11 HG11 HY11 HA11 HC11 HD11
   have hTot : 1 + xs.length + 8 * l.length ≤ 8388609 := by have := HTot.out; have := HLx.out; have := HLo.out; omega
   obtain ⟨c0, c1⟩ := pair_cells HY12.out
   go_wp2_with fail
   refine (markCartM w12 n5 mid n6 ga gb _ _ _ _ xs l HI12.out HG12.out (by omega) (by omega) (by omega) hxl hlo 1 (by omega) (by omega)).mono ?_
   rintro e w13 ⟨⟨k1, hk1, rfl⟩, -, -, hb⟩
   clear c0 c1
   have hs13 := hb.size
   have HX13 := Lib.hid ((hb.block _ (Array.getElem?_eq_some_iff.1 HX12.out).1 (by omega)).trans HX12.out)
   have HQ13 := Lib.hid ((hb.block _ (Array.getElem?_eq_some_iff.1 HQ12.out).1 (by omega)).trans HQ12.out)
   have HV13 := Lib.hid (HV12.out.kept fun j hj => hb.block j (by omega) (.inl (by omega)))
   have HO13 := Lib.hid (HO12.out.kept fun j hj => hb.block j (by omega) (.inl (by omega)))
   have HE13 := Lib.hid (HE12.out.kept fun j hj => hb.block j (by omega) (.inl (by omega)))
   have HB13 := Lib.hid (HB12.out.trans (hb.below (by omega) (by omega)))
   have HS13 := Lib.hid (HS12.out.besideM hb (by omega) (by omega))
   have HT13 := Lib.hid (HT12.out.beside hb (by omega) (by omega))
   have HN13 := Lib.hid ((hb.block _ (Array.getElem?_eq_some_iff.1 HN12.out).1 (by omega)).trans HN12.out)
   have HY13 := Lib.hid ((hb.block _ (Array.getElem?_eq_some_iff.1 HY12.out).1 (by omega)).trans HY12.out)
   have HA13 := Lib.hid (HA12.out.besideM hb (by omega) (by omega))
   have HC13 := Lib.hid (HC12.out.beside hb (by omega) (by omega))
   have HD13 := Lib.hid ((hb.block _ (Array.getElem?_eq_some_iff.1 HD12.out).1 (by omega)).trans HD12.out)
   clear hb HX12 HQ12 HV12 HO12 HE12 HB12 HS12 HT12 HN12 HI12 HG12 HY12 HA12 HC12 HD12
   have hd3 : decide ((k1 : Int) < 0) = false := decide_eq_false (by omega)
   clear hk1 hTot
   obtain ⟨c0, c1⟩ := pair_cells HD13.out
   obtain ⟨e0, e1⟩ := pair_cells HN13.out
   go_wp2_with fail
   refine (eqCartV w13 gva sva goa soa _ _ _ _ r.2.1 r.2.2 (HA13.out.ints.more (by omega)) (HS13.out.ints.more (by omega)) (HC13.out.ops.more (by omega)) (HT13.out.ops.more (by omega)) (by omega) (by omega)).mono ?_
   rintro e w14 ⟨rfl, hb⟩
   clear c0 c1 e0 e1
   have hs14 := hb.size
   have HX14 := Lib.hid ((hb.block _ (Array.getElem?_eq_some_iff.1 HX13.out).1).trans HX13.out)
   have HQ14 := Lib.hid ((hb.block _ (Array.getElem?_eq_some_iff.1 HQ13.out).1).trans HQ13.out)
   have HV14 := Lib.hid (HV13.out.below hb (by omega))
   have HO14 := Lib.hid (HO13.out.below hb (by omega))
   have HE14 := Lib.hid (HE13.out.below hb (by omega))
   have HB14 := Lib.hid (HB13.out.trans (hb.mono (by omega)))
   have HS14 := Lib.hid (HS13.out.below hb (by omega))
   have HT14 := Lib.hid (HT13.out.below hb (by omega))
   have HN14 := Lib.hid ((hb.block _ (Array.getElem?_eq_some_iff.1 HN13.out).1).trans HN13.out)
   have HY14 := Lib.hid ((hb.block _ (Array.getElem?_eq_some_iff.1 HY13.out).1).trans HY13.out)
   have HA14 := Lib.hid (HA13.out.below hb (by omega))
   have HC14 := Lib.hid (HC13.out.below hb (by omega))
   have HD14 := Lib.hid ((hb.block _ (Array.getElem?_eq_some_iff.1 HD13.out).1).trans HD13.out)
   clear hb HX13 HQ13 HV13 HO13 HE13 HB13 HS13 HT13 HN13 HY13 HA13 HC13 HD13
   obtain ⟨c0, c1⟩ := pair_cells HD14.out
   go_wp2_with fail
   refine (markCartM w14 glo gm ghi gva goa _ _ _ _ r.2.1 r.2.2 HA14.out HC14.out (by omega) (by omega) (by omega) (by omega) (by omega) 1 (by omega) (by omega)).mono ?_
   rintro e w15 ⟨⟨k3, hk3, rfl⟩, hiM, hoM, hb⟩
   clear c0 c1
   have hs15 := hb.size
   have HX15 := Lib.hid ((hb.block _ (Array.getElem?_eq_some_iff.1 HX14.out).1 (by omega)).trans HX14.out)
   have HQ15 := Lib.hid ((hb.block _ (Array.getElem?_eq_some_iff.1 HQ14.out).1 (by omega)).trans HQ14.out)
   have HV15 := Lib.hid (HV14.out.kept fun j hj => hb.block j (by omega) (.inl (by omega)))
   have HO15 := Lib.hid (HO14.out.kept fun j hj => hb.block j (by omega) (.inl (by omega)))
   have HE15 := Lib.hid (HE14.out.kept fun j hj => hb.block j (by omega) (.inl (by omega)))
   have HB15 := Lib.hid (HB14.out.trans (hb.below (by omega) (by omega)))
   have HS15 := Lib.hid (HS14.out.besideM hb (by omega) (by omega))
   have HT15 := Lib.hid (HT14.out.beside hb (by omega) (by omega))
   have HN15 := Lib.hid ((hb.block _ (Array.getElem?_eq_some_iff.1 HN14.out).1 (by omega)).trans HN14.out)
   have HY15 := Lib.hid ((hb.block _ (Array.getElem?_eq_some_iff.1 HY14.out).1 (by omega)).trans HY14.out)
   have HD15 := Lib.hid ((hb.block _ (Array.getElem?_eq_some_iff.1 HD14.out).1 (by omega)).trans HD14.out)
   clear hb HX14 HQ14 HV14 HO14 HE14 HB14 HS14 HT14 HN14 HY14 HA14 HC14 HD14
   have HA15 := Lib.hid hiM
   have HC15 := Lib.hid hoM
   clear hiM hoM
   have HK3 : Hid (1 + r.2.1.length + 8 * r.2.2.length = k3) := hk3.symm
   have hk3b : k3 ≤ 10000000 := by have := HK3.out; omega
   clear hk3
   obtain ⟨c0, c1⟩ := pair_cells HD15.out
   go_wp2_with fail
   refine (heldCart w15 ghi gva goa _ _ _ _ 1 (HA15.out.ints.more (by omega)) HC15.out.ops (by omega) (by omega) (by omega) (by omega) (by omega)).mono ?_
   rintro e w16 ⟨rfl, hb⟩
   rw [HK3.out]
   clear c0 c1
   have hs16 := hb.size
   have HX16 := Lib.hid ((hb.block _ (Array.getElem?_eq_some_iff.1 HX15.out).1).trans HX15.out)
   have HQ16 := Lib.hid ((hb.block _ (Array.getElem?_eq_some_iff.1 HQ15.out).1).trans HQ15.out)
   have HV16 := Lib.hid (HV15.out.below hb (by omega))
   have HO16 := Lib.hid (HO15.out.below hb (by omega))
   have HE16 := Lib.hid (HE15.out.below hb (by omega))
   have HB16 := Lib.hid (HB15.out.trans (hb.mono (by omega)))
   have HS16 := Lib.hid (HS15.out.below hb (by omega))
   have HT16 := Lib.hid (HT15.out.below hb (by omega))
   have HN16 := Lib.hid ((hb.block _ (Array.getElem?_eq_some_iff.1 HN15.out).1).trans HN15.out)
   have HY16 := Lib.hid ((hb.block _ (Array.getElem?_eq_some_iff.1 HY15.out).1).trans HY15.out)
   have HD16 := Lib.hid ((hb.block _ (Array.getElem?_eq_some_iff.1 HD15.out).1).trans HD15.out)
   have HA16 := Lib.hid (HA15.out.below hb (by omega))
   have HC16 := Lib.hid (HC15.out.below hb (by omega))
   clear hb HX15 HQ15 HV15 HO15 HE15 HB15 HS15 HT15 HN15 HY15 HD15 HA15 HC15
   have hdk : decide ((k3 : Int) < 0) = false := decide_eq_false (by omega)
   have hbk : ((k3 : Int) != (k3 : Int)) = false := bne_self_eq_false _
   go_upto_region 27 with fail
   rename_i KR hKR
   obtain ⟨w17, hz⟩ : ∃ z, z = w16.drew := ⟨_, rfl⟩
   have hb : Below w16.heap.size w16 w17 := by rw [hz]; exact ⟨rfl, rfl, rfl, Nat.le_refl _, fun _ _ => rfl⟩
   have hs17 := hb.size
   have HX17 := Lib.hid ((hb.block _ (Array.getElem?_eq_some_iff.1 HX16.out).1).trans HX16.out)
   have HQ17 := Lib.hid ((hb.block _ (Array.getElem?_eq_some_iff.1 HQ16.out).1).trans HQ16.out)
   have HV17 := Lib.hid (HV16.out.below hb (by omega))
   have HO17 := Lib.hid (HO16.out.below hb (by omega))
   have HE17 := Lib.hid (HE16.out.below hb (by omega))
   have HB17 := Lib.hid (HB16.out.trans (hb.mono (by omega)))
   have HS17 := Lib.hid (HS16.out.below hb (by omega))
   have HT17 := Lib.hid (HT16.out.below hb (by omega))
   have HN17 := Lib.hid ((hb.block _ (Array.getElem?_eq_some_iff.1 HN16.out).1).trans HN16.out)
   have HY17 := Lib.hid ((hb.block _ (Array.getElem?_eq_some_iff.1 HY16.out).1).trans HY16.out)
   have HD17 := Lib.hid ((hb.block _ (Array.getElem?_eq_some_iff.1 HD16.out).1).trans HD16.out)
   have HA17 := Lib.hid (HA16.out.below hb (by omega))
   have HC17 := Lib.hid (HC16.out.below hb (by omega))
   clear hb HX16 HQ16 HV16 HO16 HE16 HB16 HS16 HT16 HN16 HY16 HD16 HA16 HC16
   have hSk : ∀ z, Below w17.heap.size w17 z → z.cell? ⟨w.heap.size, 0, none⟩ = some (.slice av nv cv) ∧ z.cell? ⟨w.heap.size, 1, none⟩ = some (.slice ao no co) ∧ z.cell? ⟨w.heap.size + 1, 0, none⟩ = some (.int .i64 kind) ∧ z.cell? ⟨w.heap.size + 1, 1, none⟩ = some (.string item) ∧ z.cell? ⟨w.heap.size + 1, 2, none⟩ = some (.int .i64 qty) ∧ z.cell? ⟨w.heap.size + 1, 3, none⟩ = some (.int .i64 dv) ∧ z.cell? ⟨w.heap.size + 1, 4, none⟩ = some (.int .i64 sq) := fun z hb => by
    obtain ⟨c0, c1⟩ := pair_cells ((hb.block _ (Array.getElem?_eq_some_iff.1 HX17.out).1).trans HX17.out)
    obtain ⟨d0, d1, d2, d3, d4⟩ := cmd_cells5 ((hb.block _ (Array.getElem?_eq_some_iff.1 HQ17.out).1).trans HQ17.out)
    exact ⟨c0, c1, d0, d1, d2, d3, d4⟩
   refine wp_region_held_drew (S := fun w' => w'.cell? ⟨w.heap.size, 0, none⟩ = some (.slice av nv cv) ∧ w'.cell? ⟨w.heap.size, 1, none⟩ = some (.slice ao no co) ∧ w'.cell? ⟨w.heap.size + 1, 0, none⟩ = some (.int .i64 kind) ∧ w'.cell? ⟨w.heap.size + 1, 1, none⟩ = some (.string item) ∧ w'.cell? ⟨w.heap.size + 1, 2, none⟩ = some (.int .i64 qty) ∧ w'.cell? ⟨w.heap.size + 1, 3, none⟩ = some (.int .i64 dv) ∧ w'.cell? ⟨w.heap.size + 1, 4, none⟩ = some (.int .i64 sq)) (by kernel_rfl) (by rw [← hz]; exact hSk w17 (Below.refl _ _)) (fun hHeld => ?_)
   rw [← hz] at hHeld ⊢
   clear hz
   refine tk 0 ⟨some 89, .load 25 (.tmp 3), 25, "exact.go:2679", #[], none⟩ ?_
   (try simp only [Act.put, u1, u2, u3])
   refine tk 2 ⟨some 91, .move (.tmp 1), 2, "exact.go:2679", #[], none⟩ ?_
   (try simp only [Act.put, u1, u2, u3])
   refine tk 3 ⟨some 92, .load 27 (.tmp 5), 27, "exact.go:2679", #[], none⟩ ?_
   (try simp only [Act.put, u1, u2, u3])
   apply share8 (F := fun nW va oa sva svc soa soc wT => Below w17.heap.size w17 wT ∧ w17.heap.size ≤ nW ∧ wT.heap[nW]? = some (.cells #[.slice none 0 0, .slice none 0 0] 32 (0, 0)) ∧ ∃ lo mid hi, Own wT lo mid sva r.2.1.length r.2.1 ∧ OwnOps wT mid hi soa r.2.2.length r.2.2 ∧ w17.heap.size ≤ lo ∧ lo ≤ mid ∧ mid ≤ hi ∧ hi ≤ wT.heap.size ∧ (nW < lo ∨ hi ≤ nW))
   case h1 =>
    intro hT
    have g0 : Below w17.heap.size w17 w17 := Below.refl _ _
    refine wpAnyH_ready (rs := [1, 9]) (by kernel_rfl) (by simp) ?_
    refine AllReadyH.cons rfl (fun K hK => ?_) (AllReadyH.cons rfl (fun K hK => ?_) AllReadyH.nil)
    ·
     go_simp
     go_at_call 9
     refine (toCart w17 w.heap.size av ao nv cv no co xs l (HV17.out.below g0 (by omega)) (HO17.out.below g0 (by omega)) (by have := g0.size; omega) hnv hno).mono ?_
     rintro e y22 ⟨va, oa, rfl, hiC, hoC, t22⟩
     have gy22 : Below w17.heap.size w17 y22 := g0.trans (t22.mono g0.size)
     have sy22 := t22.size
     refine hK.out _ _ (hSk y22 gy22) (fun _ => ?_)
     clear hK K
     (try simp only [Act.put, u1, u2, u3])
     refine wpAnyH_ready (rs := [4, 9]) (by kernel_rfl) (by simp) ?_
     refine AllReadyH.cons rfl (fun K hK => ?_) (AllReadyH.cons rfl (fun K hK => ?_) AllReadyH.nil)
     ·
      go_simp
      go_at_call 10
      refine (toCmdL kind item qty dv sq y22).mono ?_
      rintro e y23 ⟨rfl, t23⟩
      have gy23 : Below w17.heap.size w17 y23 := gy22.trans (t23.mono gy22.size)
      have sy23 := t23.size
      have iy23 := (hiC.below t23 (Nat.le_refl _)).more t23.size
      have oy23 := (hoC.below t23 (Nat.le_refl _)).more t23.size
      refine hK.out _ _ (hSk y23 gy23) (fun _ => ?_)
      clear hK K
      (try simp only [Act.put, u1, u2, u3])
      refine wpAnyH_ready (rs := [5, 9]) (by kernel_rfl) (by simp) ?_
      refine AllReadyH.cons rfl (fun K hK => ?_) (AllReadyH.cons rfl (fun K hK => ?_) AllReadyH.nil)
      ·
       go_simp
       go_at_call 11
       have hsp := implIssueA y23 y23.heap.size E ((HE17.out.below gy23 (by omega)).up (by have := gy23.size; omega)) va oa xs.length xs.length l.length l.length xs l dev kind qty dv sq item iy23 oy23 (Nat.le_refl _) (Nat.le_refl _) (capsO oy23 hlo) hxl hlo hi8
       rw [HR.out] at hsp
       refine hsp.mono ?_
       rintro e y24 ⟨sva, svc, soa, soc, gm, rfl, hiR, hoR, hgm1, hgm2, _, _, t24⟩
       have gy24 : Below w17.heap.size w17 y24 := gy23.trans (t24.mono gy23.size)
       have sy24 := t24.size
       have sgy24 := gy23.size
       refine hK.out _ _ (hSk y24 gy24) (fun _ => ?_)
       clear hK K
       (try simp only [Act.put, u1, u2, u3])
       refine tk 6 ⟨some 88, .move (.tmp 94), 33, "exact.go:2679", #[⟨5, .data⟩], none⟩ ?_
       (try simp only [Act.put, u1, u2, u3])
       refine tk 7 ⟨some 95, .extract (.tmp 88) 0, 32, "exact.go:2679", #[⟨6, .data⟩], none⟩ ?_
       (try simp only [Act.put, u1, u2, u3])
       refine tk 8 ⟨some 96, .extract (.tmp 88) 1, 2, "exact.go:2679", #[⟨6, .data⟩, { on := 10, ground := Ground.gcOnly Departure.lateStores }], none⟩ ?_
       (try simp only [Act.put, u1, u2, u3])
       refine rk 9 rfl (fun K hK => ?_)
       have t25 : Below y24.heap.size y24 (y24.alloc (.cells #[.slice none 0 0, .slice none 0 0] 32)) := bl
       have hSy25 := hSk (y24.alloc (.cells #[.slice none 0 0, .slice none 0 0] 32)) (gy24.trans (t25.mono gy24.size))
       have vy25 : (y24.alloc (.cells #[.slice none 0 0, .slice none 0 0] 32)).heap[y24.heap.size]? = some (.cells #[.slice none 0 0, .slice none 0 0] 32 (0, 0)) := heap_alloc_new _ _
       go_simp
       refine hK.out _ _ hSy25 (fun _ => ?_)
       clear hK K hSy25
       (try simp only [Act.put, u1, u2, u3])
       generalize (y24.alloc (.cells #[.slice none 0 0, .slice none 0 0] 32)) = y25 at t25 vy25 ⊢
       have vly25 : y24.heap.size < y25.heap.size := (Array.getElem?_eq_some_iff.1 vy25).1
       have gy25 : Below w17.heap.size w17 y25 := gy24.trans (t25.mono gy24.size)
       have sy25 := t25.size
       have py25 := hiR.below t25 (by omega)
       have qy25 := hoR.below t25 (by omega)
       obtain ⟨nW, hnW⟩ : ∃ nW, nW = y24.heap.size := ⟨_, rfl⟩
       have hge : w17.heap.size ≤ nW := by rw [hnW]; exact gy24.size
       rw [← hnW] at vy25 ⊢
       have hnw1 : nW ≤ y24.heap.size := Nat.le_of_eq hnW
       have hnw2 : y24.heap.size ≤ nW := Nat.le_of_eq hnW.symm
       clear hnW
       exact wpAnyH_listed (l' := #[true, true, true, true, true, true, true, true, true, true, false, false]) (by kernel_rfl) (hT nW va oa sva svc soa soc y25 ⟨gy25, hge, vy25, ⟨y23.heap.size, gm, y24.heap.size, py25, qy25, by omega, by omega, by omega, by omega, by omega⟩⟩)
      ·
       have t26 : Below y23.heap.size y23 (y23.alloc (.cells #[.slice none 0 0, .slice none 0 0] 32)) := bl
       have hSy26 := hSk (y23.alloc (.cells #[.slice none 0 0, .slice none 0 0] 32)) (gy23.trans (t26.mono gy23.size))
       have vy26 : (y23.alloc (.cells #[.slice none 0 0, .slice none 0 0] 32)).heap[y23.heap.size]? = some (.cells #[.slice none 0 0, .slice none 0 0] 32 (0, 0)) := heap_alloc_new _ _
       go_simp
       refine hK.out _ _ hSy26 (fun _ => ?_)
       clear hK K hSy26
       (try simp only [Act.put, u1, u2, u3])
       generalize (y23.alloc (.cells #[.slice none 0 0, .slice none 0 0] 32)) = y26 at t26 vy26 ⊢
       have vly26 : y23.heap.size < y26.heap.size := (Array.getElem?_eq_some_iff.1 vy26).1
       have gy26 : Below w17.heap.size w17 y26 := gy23.trans (t26.mono gy23.size)
       have sy26 := t26.size
       have iy26 := (iy23.below t26 (Nat.le_refl _)).more t26.size
       have oy26 := (oy23.below t26 (Nat.le_refl _)).more t26.size
       obtain ⟨nW, hnW⟩ : ∃ nW, nW = y23.heap.size := ⟨_, rfl⟩
       have hge : w17.heap.size ≤ nW := by rw [hnW]; exact gy23.size
       rw [← hnW] at vy26 ⊢
       have hnw1 : nW ≤ y23.heap.size := Nat.le_of_eq hnW
       have hnw2 : y23.heap.size ≤ nW := Nat.le_of_eq hnW.symm
       clear hnW
       refine rk 5 rfl (fun K hK => ?_)
       go_simp
       go_at_call 11
       have hsp := implIssueA y26 y26.heap.size E ((HE17.out.below gy26 (by omega)).up (by have := gy26.size; omega)) va oa xs.length xs.length l.length l.length xs l dev kind qty dv sq item iy26 oy26 (Nat.le_refl _) (Nat.le_refl _) (capsO oy26 hlo) hxl hlo hi8
       rw [HR.out] at hsp
       refine hsp.mono ?_
       rintro e y27 ⟨sva, svc, soa, soc, gm, rfl, hiR, hoR, hgm1, hgm2, _, _, t27⟩
       have gy27 : Below w17.heap.size w17 y27 := gy26.trans (t27.mono gy26.size)
       have sy27 := t27.size
       have vy27 := (t27.block _ (Array.getElem?_eq_some_iff.1 vy26).1).trans vy26
       have sgy27 := gy26.size
       refine hK.out _ _ (hSk y27 gy27) (fun _ => ?_)
       clear hK K
       (try simp only [Act.put, u1, u2, u3])
       refine tk 6 ⟨some 88, .move (.tmp 94), 33, "exact.go:2679", #[⟨5, .data⟩], none⟩ ?_
       (try simp only [Act.put, u1, u2, u3])
       refine tk 7 ⟨some 95, .extract (.tmp 88) 0, 32, "exact.go:2679", #[⟨6, .data⟩], none⟩ ?_
       (try simp only [Act.put, u1, u2, u3])
       refine tk 8 ⟨some 96, .extract (.tmp 88) 1, 2, "exact.go:2679", #[⟨6, .data⟩, { on := 10, ground := Ground.gcOnly Departure.lateStores }], none⟩ ?_
       (try simp only [Act.put, u1, u2, u3])
       exact wpAnyH_listed (l' := #[true, true, true, true, true, true, true, true, true, true, false, false]) (by kernel_rfl) (hT nW va oa sva svc soa soc y27 ⟨gy27, hge, vy27, ⟨y26.heap.size, gm, y27.heap.size, hiR, hoR, by omega, by omega, by omega, by omega, by omega⟩⟩)
     ·
      have t28 : Below y22.heap.size y22 (y22.alloc (.cells #[.slice none 0 0, .slice none 0 0] 32)) := bl
      have hSy28 := hSk (y22.alloc (.cells #[.slice none 0 0, .slice none 0 0] 32)) (gy22.trans (t28.mono gy22.size))
      have vy28 : (y22.alloc (.cells #[.slice none 0 0, .slice none 0 0] 32)).heap[y22.heap.size]? = some (.cells #[.slice none 0 0, .slice none 0 0] 32 (0, 0)) := heap_alloc_new _ _
      go_simp
      refine hK.out _ _ hSy28 (fun _ => ?_)
      clear hK K hSy28
      (try simp only [Act.put, u1, u2, u3])
      generalize (y22.alloc (.cells #[.slice none 0 0, .slice none 0 0] 32)) = y28 at t28 vy28 ⊢
      have vly28 : y22.heap.size < y28.heap.size := (Array.getElem?_eq_some_iff.1 vy28).1
      have gy28 : Below w17.heap.size w17 y28 := gy22.trans (t28.mono gy22.size)
      have sy28 := t28.size
      have iy28 := (hiC.below t28 (Nat.le_refl _)).more t28.size
      have oy28 := (hoC.below t28 (Nat.le_refl _)).more t28.size
      obtain ⟨nW, hnW⟩ : ∃ nW, nW = y22.heap.size := ⟨_, rfl⟩
      have hge : w17.heap.size ≤ nW := by rw [hnW]; exact gy22.size
      rw [← hnW] at vy28 ⊢
      have hnw1 : nW ≤ y22.heap.size := Nat.le_of_eq hnW
      have hnw2 : y22.heap.size ≤ nW := Nat.le_of_eq hnW.symm
      clear hnW
      refine rk 4 rfl (fun K hK => ?_)
      go_simp
      go_at_call 10
      refine (toCmdL kind item qty dv sq y28).mono ?_
      rintro e y29 ⟨rfl, t29⟩
      have gy29 : Below w17.heap.size w17 y29 := gy28.trans (t29.mono gy28.size)
      have sy29 := t29.size
      have vy29 := (t29.block _ (Array.getElem?_eq_some_iff.1 vy28).1).trans vy28
      have iy29 := (iy28.below t29 (Nat.le_refl _)).more t29.size
      have oy29 := (oy28.below t29 (Nat.le_refl _)).more t29.size
      refine hK.out _ _ (hSk y29 gy29) (fun _ => ?_)
      clear hK K
      (try simp only [Act.put, u1, u2, u3])
      refine rk 5 rfl (fun K hK => ?_)
      go_simp
      go_at_call 11
      have hsp := implIssueA y29 y29.heap.size E ((HE17.out.below gy29 (by omega)).up (by have := gy29.size; omega)) va oa xs.length xs.length l.length l.length xs l dev kind qty dv sq item iy29 oy29 (Nat.le_refl _) (Nat.le_refl _) (capsO oy29 hlo) hxl hlo hi8
      rw [HR.out] at hsp
      refine hsp.mono ?_
      rintro e y30 ⟨sva, svc, soa, soc, gm, rfl, hiR, hoR, hgm1, hgm2, _, _, t30⟩
      have gy30 : Below w17.heap.size w17 y30 := gy29.trans (t30.mono gy29.size)
      have sy30 := t30.size
      have vy30 := (t30.block _ (Array.getElem?_eq_some_iff.1 vy29).1).trans vy29
      have sgy30 := gy29.size
      refine hK.out _ _ (hSk y30 gy30) (fun _ => ?_)
      clear hK K
      (try simp only [Act.put, u1, u2, u3])
      refine tk 6 ⟨some 88, .move (.tmp 94), 33, "exact.go:2679", #[⟨5, .data⟩], none⟩ ?_
      (try simp only [Act.put, u1, u2, u3])
      refine tk 7 ⟨some 95, .extract (.tmp 88) 0, 32, "exact.go:2679", #[⟨6, .data⟩], none⟩ ?_
      (try simp only [Act.put, u1, u2, u3])
      refine tk 8 ⟨some 96, .extract (.tmp 88) 1, 2, "exact.go:2679", #[⟨6, .data⟩, { on := 10, ground := Ground.gcOnly Departure.lateStores }], none⟩ ?_
      (try simp only [Act.put, u1, u2, u3])
      exact wpAnyH_listed (l' := #[true, true, true, true, true, true, true, true, true, true, false, false]) (by kernel_rfl) (hT nW va oa sva svc soa soc y30 ⟨gy30, hge, vy30, ⟨y29.heap.size, gm, y30.heap.size, hiR, hoR, by omega, by omega, by omega, by omega, by omega⟩⟩)
    ·
     have t31 : Below w17.heap.size w17 (w17.alloc (.cells #[.slice none 0 0, .slice none 0 0] 32)) := bl
     have hSy31 := hSk (w17.alloc (.cells #[.slice none 0 0, .slice none 0 0] 32)) (g0.trans (t31.mono g0.size))
     have vy31 : (w17.alloc (.cells #[.slice none 0 0, .slice none 0 0] 32)).heap[w17.heap.size]? = some (.cells #[.slice none 0 0, .slice none 0 0] 32 (0, 0)) := heap_alloc_new _ _
     go_simp
     refine hK.out _ _ hSy31 (fun _ => ?_)
     clear hK K hSy31
     (try simp only [Act.put, u1, u2, u3])
     generalize (w17.alloc (.cells #[.slice none 0 0, .slice none 0 0] 32)) = y31 at t31 vy31 ⊢
     have vly31 : w17.heap.size < y31.heap.size := (Array.getElem?_eq_some_iff.1 vy31).1
     have gy31 : Below w17.heap.size w17 y31 := g0.trans (t31.mono g0.size)
     have sy31 := t31.size
     obtain ⟨nW, hnW⟩ : ∃ nW, nW = w17.heap.size := ⟨_, rfl⟩
     have hge : w17.heap.size ≤ nW := by rw [hnW]; exact g0.size
     rw [← hnW] at vy31 ⊢
     have hnw1 : nW ≤ w17.heap.size := Nat.le_of_eq hnW
     have hnw2 : w17.heap.size ≤ nW := Nat.le_of_eq hnW.symm
     clear hnW
     refine rk 1 rfl (fun K hK => ?_)
     go_simp
     go_at_call 9
     refine (toCart y31 w.heap.size av ao nv cv no co xs l (HV17.out.below gy31 (by omega)) (HO17.out.below gy31 (by omega)) (by have := gy31.size; omega) hnv hno).mono ?_
     rintro e y32 ⟨va, oa, rfl, hiC, hoC, t32⟩
     have gy32 : Below w17.heap.size w17 y32 := gy31.trans (t32.mono gy31.size)
     have sy32 := t32.size
     have vy32 := (t32.block _ (Array.getElem?_eq_some_iff.1 vy31).1).trans vy31
     refine hK.out _ _ (hSk y32 gy32) (fun _ => ?_)
     clear hK K
     (try simp only [Act.put, u1, u2, u3])
     refine rk 4 rfl (fun K hK => ?_)
     go_simp
     go_at_call 10
     refine (toCmdL kind item qty dv sq y32).mono ?_
     rintro e y33 ⟨rfl, t33⟩
     have gy33 : Below w17.heap.size w17 y33 := gy32.trans (t33.mono gy32.size)
     have sy33 := t33.size
     have vy33 := (t33.block _ (Array.getElem?_eq_some_iff.1 vy32).1).trans vy32
     have iy33 := (hiC.below t33 (Nat.le_refl _)).more t33.size
     have oy33 := (hoC.below t33 (Nat.le_refl _)).more t33.size
     refine hK.out _ _ (hSk y33 gy33) (fun _ => ?_)
     clear hK K
     (try simp only [Act.put, u1, u2, u3])
     refine rk 5 rfl (fun K hK => ?_)
     go_simp
     go_at_call 11
     have hsp := implIssueA y33 y33.heap.size E ((HE17.out.below gy33 (by omega)).up (by have := gy33.size; omega)) va oa xs.length xs.length l.length l.length xs l dev kind qty dv sq item iy33 oy33 (Nat.le_refl _) (Nat.le_refl _) (capsO oy33 hlo) hxl hlo hi8
     rw [HR.out] at hsp
     refine hsp.mono ?_
     rintro e y34 ⟨sva, svc, soa, soc, gm, rfl, hiR, hoR, hgm1, hgm2, _, _, t34⟩
     have gy34 : Below w17.heap.size w17 y34 := gy33.trans (t34.mono gy33.size)
     have sy34 := t34.size
     have vy34 := (t34.block _ (Array.getElem?_eq_some_iff.1 vy33).1).trans vy33
     have sgy34 := gy33.size
     refine hK.out _ _ (hSk y34 gy34) (fun _ => ?_)
     clear hK K
     (try simp only [Act.put, u1, u2, u3])
     refine tk 6 ⟨some 88, .move (.tmp 94), 33, "exact.go:2679", #[⟨5, .data⟩], none⟩ ?_
     (try simp only [Act.put, u1, u2, u3])
     refine tk 7 ⟨some 95, .extract (.tmp 88) 0, 32, "exact.go:2679", #[⟨6, .data⟩], none⟩ ?_
     (try simp only [Act.put, u1, u2, u3])
     refine tk 8 ⟨some 96, .extract (.tmp 88) 1, 2, "exact.go:2679", #[⟨6, .data⟩, { on := 10, ground := Ground.gcOnly Departure.lateStores }], none⟩ ?_
     (try simp only [Act.put, u1, u2, u3])
     exact wpAnyH_listed (l' := #[true, true, true, true, true, true, true, true, true, true, false, false]) (by kernel_rfl) (hT nW va oa sva svc soa soc y34 ⟨gy34, hge, vy34, ⟨y33.heap.size, gm, y34.heap.size, hiR, hoR, by omega, by omega, by omega, by omega, by omega⟩⟩)
   case h2 =>
    intro nH vB oB hva hvc hoa hoc w18 ⟨gz, hbge, hN, hlo', hmi, hhi, hiR, hoR, hb1, hb2, hb3, hb5, hb4⟩
    obtain ⟨c0, c1⟩ := pair_cells hN
    obtain ⟨x0, x1⟩ := pair_frozen hN
    have gW : Below w17.heap.size w17 ((w18.setCell ⟨nH, 0, none⟩ (.slice hva r.2.1.length hvc)).setCell ⟨nH, 1, none⟩ (.slice hoa r.2.2.length hoc)) := (gz.setCell (p := ⟨nH, 0, none⟩) hbge _).setCell (p := ⟨nH, 1, none⟩) hbge _
    have hSW := hSk _ gW
    refine rk 10 rfl (fun K hK => ?_)
    go_simp
    refine hK.out _ _ hSW (fun hHeld9 => ?_)
    clear hK K
    (try simp only [Act.put, u1, u2, u3])
    refine tk 11 ⟨some 17, .assign (.tmp 96), 2, "exact.go:2679", #[⟨8, .data⟩, ⟨10, .chain⟩, ⟨0, .phase⟩, ⟨1, .phase⟩, ⟨2, .phase⟩, ⟨3, .phase⟩, ⟨4, .phase⟩, ⟨5, .phase⟩, ⟨6, .phase⟩, ⟨7, .phase⟩, ⟨8, .phase⟩, ⟨9, .phase⟩, ⟨10, .phase⟩], none⟩ ?_
    (try simp only [Act.put, u1, u2, u3])
    refine wpAnyH_done (by kernel_rfl) ?_ _
    have HJ19 : Hid (Own ((w18.setCell ⟨nH, 0, none⟩ (.slice hva r.2.1.length hvc)).setCell ⟨nH, 1, none⟩ (.slice hoa r.2.2.length hoc)) hlo' hmi hva r.2.1.length r.2.1) := hiR.kept (fun j a b => pair_other _ _ (by omega))
    have HK19 : Hid (OwnOps ((w18.setCell ⟨nH, 0, none⟩ (.slice hva r.2.1.length hvc)).setCell ⟨nH, 1, none⟩ (.slice hoa r.2.2.length hoc)) hmi hhi hoa r.2.2.length r.2.2) := hoR.kept (fun j a b => pair_other _ _ (by omega))
    have HH19 : Hid (((w18.setCell ⟨nH, 0, none⟩ (.slice hva r.2.1.length hvc)).setCell ⟨nH, 1, none⟩ (.slice hoa r.2.2.length hoc)).heap[nH]? = some (.cells #[.slice hva r.2.1.length hvc, .slice hoa r.2.2.length hoc] 32 (0, 0))) := pair_set _ _ hN
    have hsz19 : ((w18.setCell ⟨nH, 0, none⟩ (.slice hva r.2.1.length hvc)).setCell ⟨nH, 1, none⟩ (.slice hoa r.2.2.length hoc)).heap.size = w18.heap.size := pair_size _ _ _ _
    clear c0 c1 x0 x1 hSW hN hiR hoR hHeld hSk gz
    generalize ((w18.setCell ⟨nH, 0, none⟩ (.slice hva r.2.1.length hvc)).setCell ⟨nH, 1, none⟩ (.slice hoa r.2.2.length hoc)) = w19 at gW HJ19 HK19 HH19 hsz19 ⊢
    apply hKR
    clear hKR KR
    have hnl19 : nH < w19.heap.size := (Array.getElem?_eq_some_iff.1 HH19.out).1
    have hs19 := gW.size
    have HX19 := Lib.hid ((gW.block _ (Array.getElem?_eq_some_iff.1 HX17.out).1).trans HX17.out)
    have HQ19 := Lib.hid ((gW.block _ (Array.getElem?_eq_some_iff.1 HQ17.out).1).trans HQ17.out)
    have HV19 := Lib.hid (HV17.out.below gW (by omega))
    have HO19 := Lib.hid (HO17.out.below gW (by omega))
    have HE19 := Lib.hid (HE17.out.below gW (by omega))
    have HB19 := Lib.hid (HB17.out.trans (gW.mono (by omega)))
    have HS19 := Lib.hid (HS17.out.below gW (by omega))
    have HT19 := Lib.hid (HT17.out.below gW (by omega))
    have HN19 := Lib.hid ((gW.block _ (Array.getElem?_eq_some_iff.1 HN17.out).1).trans HN17.out)
    have HY19 := Lib.hid ((gW.block _ (Array.getElem?_eq_some_iff.1 HY17.out).1).trans HY17.out)
    have HD19 := Lib.hid ((gW.block _ (Array.getElem?_eq_some_iff.1 HD17.out).1).trans HD17.out)
    have HA19 := Lib.hid (HA17.out.below gW (by omega))
    have HC19 := Lib.hid (HC17.out.below gW (by omega))
    clear gW HX17 HQ17 HV17 HO17 HE17 HB17 HS17 HT17 HN17 HY17 HD17 HA17 HC17
    obtain ⟨c0, c1⟩ := pair_cells HH19.out
    obtain ⟨e0, e1⟩ := pair_cells HN19.out
    go_wp2_with fail
    refine (eqCartV w19 hva sva hoa soa _ _ _ _ r.2.1 r.2.2 (HJ19.out.ints.more (by omega)) (HS19.out.ints.more (by omega)) (HK19.out.ops.more (by omega)) (HT19.out.ops.more (by omega)) (by omega) (by omega)).mono ?_
    rintro e w20 ⟨rfl, hb⟩
    clear c0 c1 e0 e1
    have hs20 := hb.size
    have HX20 := Lib.hid ((hb.block _ (Array.getElem?_eq_some_iff.1 HX19.out).1).trans HX19.out)
    have HQ20 := Lib.hid ((hb.block _ (Array.getElem?_eq_some_iff.1 HQ19.out).1).trans HQ19.out)
    have HV20 := Lib.hid (HV19.out.below hb (by omega))
    have HO20 := Lib.hid (HO19.out.below hb (by omega))
    have HE20 := Lib.hid (HE19.out.below hb (by omega))
    have HB20 := Lib.hid (HB19.out.trans (hb.mono (by omega)))
    have HS20 := Lib.hid (HS19.out.below hb (by omega))
    have HT20 := Lib.hid (HT19.out.below hb (by omega))
    have HN20 := Lib.hid ((hb.block _ (Array.getElem?_eq_some_iff.1 HN19.out).1).trans HN19.out)
    have HY20 := Lib.hid ((hb.block _ (Array.getElem?_eq_some_iff.1 HY19.out).1).trans HY19.out)
    have HD20 := Lib.hid ((hb.block _ (Array.getElem?_eq_some_iff.1 HD19.out).1).trans HD19.out)
    have HA20 := Lib.hid (HA19.out.below hb (by omega))
    have HC20 := Lib.hid (HC19.out.below hb (by omega))
    have HJ20 := Lib.hid (HJ19.out.below hb (by omega))
    have HK20 := Lib.hid (HK19.out.below hb (by omega))
    have HH20 := Lib.hid ((hb.block _ (Array.getElem?_eq_some_iff.1 HH19.out).1).trans HH19.out)
    clear hb HX19 HQ19 HV19 HO19 HE19 HB19 HS19 HT19 HN19 HY19 HD19 HA19 HC19 HJ19 HK19 HH19
    obtain ⟨c0, c1⟩ := pair_cells HD20.out
    go_wp2_with fail
    refine (heldCart w20 ghi gva goa _ _ _ _ 1 (HA20.out.ints.more (by omega)) HC20.out.ops (by omega) (by omega) (by omega) (by omega) (by omega)).mono ?_
    rintro e w21 ⟨rfl, hb⟩
    rw [HK3.out]
    clear c0 c1
    have hs21 := hb.size
    have HX21 := Lib.hid ((hb.block _ (Array.getElem?_eq_some_iff.1 HX20.out).1).trans HX20.out)
    have HQ21 := Lib.hid ((hb.block _ (Array.getElem?_eq_some_iff.1 HQ20.out).1).trans HQ20.out)
    have HV21 := Lib.hid (HV20.out.below hb (by omega))
    have HO21 := Lib.hid (HO20.out.below hb (by omega))
    have HE21 := Lib.hid (HE20.out.below hb (by omega))
    have HB21 := Lib.hid (HB20.out.trans (hb.mono (by omega)))
    have HS21 := Lib.hid (HS20.out.below hb (by omega))
    have HT21 := Lib.hid (HT20.out.below hb (by omega))
    have HN21 := Lib.hid ((hb.block _ (Array.getElem?_eq_some_iff.1 HN20.out).1).trans HN20.out)
    have HY21 := Lib.hid ((hb.block _ (Array.getElem?_eq_some_iff.1 HY20.out).1).trans HY20.out)
    have HD21 := Lib.hid ((hb.block _ (Array.getElem?_eq_some_iff.1 HD20.out).1).trans HD20.out)
    have HA21 := Lib.hid (HA20.out.below hb (by omega))
    have HC21 := Lib.hid (HC20.out.below hb (by omega))
    have HJ21 := Lib.hid (HJ20.out.below hb (by omega))
    have HK21 := Lib.hid (HK20.out.below hb (by omega))
    have HH21 := Lib.hid ((hb.block _ (Array.getElem?_eq_some_iff.1 HH20.out).1).trans HH20.out)
    clear hb HX20 HQ20 HV20 HO20 HE20 HB20 HS20 HT20 HN20 HY20 HD20 HA20 HC20 HJ20 HK20 HH20
    go_wp2
    go_ret
    exact ⟨rfl, HB21.out⟩
end Go.Proofs.YtjokbaaommicmaaGreatDoor
