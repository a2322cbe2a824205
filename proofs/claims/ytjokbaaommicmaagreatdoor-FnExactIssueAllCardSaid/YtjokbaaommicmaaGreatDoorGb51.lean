/- Walks and mathematics that several claims share, part 51. -/
import Derived.Test.YtjokbaaommicmaaGreatDoorGb46
import Derived.Test.YtjokbaaommicmaaGreatDoorGb50
import Derived.Test.YtjokbaaommicmaaGreatDoorGb18
import Derived.Test.YtjokbaaommicmaaGreatDoorGb28
import Derived.Test.YtjokbaaommicmaaGreatDoorGb29
import Derived.Test.YtjokbaaommicmaaGreatDoorGb27
import Derived.Test.YtjokbaaommicmaaGreatDoorGb23
import Derived.Test.YtjokbaaommicmaaGreatDoorGb24
import Derived.Deep.Cut
import Derived.Lib.Hide
import Derived.Deep.AppendLies
import Derived.Deep.RegionHeld3
import Derived.Test.YtjokbaaommicmaaGreatDoorGbA
namespace Go.Proofs.YtjokbaaommicmaaGreatDoor
set_option maxRecDepth 100000
open Go.RowKit
set_option linter.unusedVariables false
set_option linter.unusedSimpArgs false

set_option maxHeartbeats 40000000 in
theorem specIssueBad (w : World) (B : Nat) (av ao : Option Addr) (nv cv no co : Nat) (xs : List Int) (l : List OpV) (kind qty dv sq : Int) (item : ByteArray) (hx : Ints w B av nv xs) (h : Ops w B ao no l) (hB : B ≤ w.heap.size) (dev : Int) (hm : ∀ i, i < no → (atOp l i).item.size ≤ 1048576) (hv : nv ≤ 1048576) (hn : no ≤ 1048576) (hbad : cartB xs l = false) :
  Calls Tryz.prog 8 #[.agg #[.slice av nv cv, .slice ao no co], .int .i64 dev, .agg #[.int .i64 kind, .string item, .int .i64 qty, .int .i64 dv, .int .i64 sq]] w (IssN 1 [] [] w) := by
 have hT := IsuF.mk0 w #[.slice av nv cv, .slice ao no co] #[.int .i64 kind, .string item, .int .i64 qty, .int .i64 dv, .int .i64 sq] #[.slice none 0 0, .slice none 0 0]
 have HV := Lib.hid (hx.below hT.bel hB)
 have HO := Lib.hid (h.below hT.bel hB)
 have HT := Lib.hid hT
 have HM := Lib.hid hm
 have HBad := Lib.hid hbad
 clear hx h hT hm hbad
 go_enter Tryz.func8, Tryz.ntmps8
 go_upto_region 1 with fail
 generalize ((w.alloc (.cells #[.slice av nv cv, .slice ao no co] 32)).alloc (.cells #[.int .i64 kind, .string item, .int .i64 qty, .int .i64 dv, .int .i64 sq] 36)).alloc (.cells #[.slice none 0 0, .slice none 0 0] 32) = w0 at HV HO HT ⊢
 have hs0 := HT.out.lt
 obtain ⟨q0, q1⟩ := pair_cells HT.out.fst
 go_wp2_with fail
 refine (specCartOk w0 B av ao nv cv no co xs l HV.out HO.out (by omega) hv hn HM.out).mono ?_
 rw [HBad.out]
 rintro e w1 ⟨rfl, hb1⟩
 have HT1 := Lib.hid (HT.out.next hb1)
 have hs1 := hb1.size
 clear hb1 HT HV HO q0 q1
 obtain ⟨r0, r1⟩ := pair_cells HT1.out.res
 obtain ⟨f0, f1⟩ := pair_frozen HT1.out.res
 obtain ⟨HX6, HI6⟩ := HT1.out.outN (w1 := w1) (va := none) (nv := 0) (vc := 0) (oa := none) (no := 0) (oc := 0) (code := 1) (zs := []) (m := []) (by omega) (CrX.nil _ _ _)
 go_wp2
 generalize (w1.setCell ⟨w.heap.size + 1 + 1, 0, none⟩ (.slice none 0 0)).setCell ⟨w.heap.size + 1 + 1, 1, none⟩ (.slice none 0 0) = wf at HX6 HI6 ⊢
 obtain ⟨p0, p1⟩ := pair_cells HX6.out
 exact bodyPost_ret (v := .tuple #[.agg #[.slice none 0 0, .slice none 0 0], .int .i64 (1)]) (by simp [results, Tryz.results8, go_sem, p0, p1]) rfl HI6.out
theorem issueN_bad {xs : List Int} {l : List OpV} (h : cartB xs l = false) (dev kind : Int) (item : ByteArray) (qty dv sq : Int) : issueN xs l dev kind item qty dv sq = (1, [], []) := by
 unfold issueN
 rw [if_neg]
 rintro ⟨h1, _⟩
 rw [h] at h1
 cases h1
theorem specIssueA (w : World) (B : Nat) (av ao : Option Addr) (nv cv no co : Nat) (xs : List Int) (l : List OpV) (kind qty dv sq : Int) (item : ByteArray) (hx : Ints w B av nv xs) (h : Ops w B ao no l) (hB : B ≤ w.heap.size) (hcv : Caps av nv cv) (hco : Caps ao no co) (hi : item.size ≤ 1048576) (dev : Int) (hm : ∀ i, i < no → (atOp l i).item.size ≤ 1048576) (hv : nv ≤ 1048576) (hn : no ≤ 1048576) :
  Calls Tryz.prog 8 #[.agg #[.slice av nv cv, .slice ao no co], .int .i64 dev, .agg #[.int .i64 kind, .string item, .int .i64 qty, .int .i64 dv, .int .i64 sq]] w (IssN (issueN xs l dev kind item qty dv sq).1 (issueN xs l dev kind item qty dv sq).2.1 (issueN xs l dev kind item qty dv sq).2.2 w) := by
 cases hc : cartB xs l
 ·rw [issueN_bad hc]
  exact specIssueBad w B av ao nv cv no co xs l kind qty dv sq item hx h hB dev hm hv hn hc
 ·obtain rfl : nv = 4 := by rw [← hx.1]; exact (cart_vecs hc).1
  exact specIssueX w B av ao cv no co xs l kind qty dv sq item hx h hB hcv hco hi dev hm hn rfl
theorem implIssueA (w : World) (B : Nat) (E : Int → Addr) (hE : Errs w B E) (av ao : Option Addr) (nv cv no co : Nat) (xs : List Int) (l : List OpV) (dev kind qty dv sq : Int) (item : ByteArray) (hx : Ints w B av nv xs) (h : Ops w B ao no l) (hB : B ≤ w.heap.size) (hcv : nv ≤ cv) (hco : Caps ao no co) (hv : nv ≤ 1048576) (hn : no ≤ 1048576) (hi : item.size ≤ 1048576) :
  Calls Tryz.prog 11 #[.agg #[.slice av nv cv, .slice ao no co], .int .i64 dev, .agg #[.int .i64 kind, .string item, .int .i64 qty, .int .i64 dv, .int .i64 sq]] w (IssI (issueN xs l dev kind item qty dv sq) w) := by
 cases hc : cartB xs l
 ·rw [issueN_bad hc]
  exact implIssueBad w B E hE av ao nv cv no co xs l dev kind qty dv sq item hx h hB hv hco.1 ⟨hn, hco.2.1⟩ hc
 ·obtain rfl : nv = 4 := by rw [← hx.1]; exact (cart_vecs hc).1
  obtain ⟨g, off, e, _⟩ := hx.2 0 (by omega)
  subst e
  exact implIssue w B E hE g off ao cv no co xs l dev kind qty dv sq item hx h hB hcv hco hn hi
set_option linter.unusedVariables false

theorem clrU_cart {d : Nat} (hd : d < 4) : ∀ (U : List ByteArray) (zs : List Int) (m : List OpV), cartB zs m = true → (clrU d U zs m).1 = 0 → cartB (clrU d U zs m).2.1 (clrU d U zs m).2.2 = true
 | [], zs, m, h, _ => h
 | s :: U, zs, m, h, h0 => by
  unfold clrU at h0 ⊢
  split at h0
  ·rename_i h1
   rw [if_pos h1]
   exact clrU_cart hd U _ _ (oneN_cart h hd h1) h0
  ·rename_i h1
   exact absurd h0 h1
theorem tglN_cart {xs : List Int} {l : List OpV} (h : cartB xs l = true) {dev s : Int} (h0 : (tglN xs l dev s).1 = 0) : cartB (tglN xs l dev s).2.1 (tglN xs l dev s).2.2 = true := by
 unfold tglN at h0 ⊢
 split at h0
 ·rename_i h1
  rw [if_pos h1]
  split at h0
  ·cases h0
  ·rename_i h2
   rw [if_neg h2]
   exact cart_tog h h1 h2
 ·cases h0
theorem clrN_cart {xs : List Int} {l : List OpV} (h : cartB xs l = true) {d : Nat} (hd : d < 4) (h0 : (clrN xs l d).1 = 0) : cartB (clrN xs l d).2.1 (clrN xs l d).2.2 = true := by
 rw [clr_impl h hd] at h0 ⊢
 split at h0
 ·cases h0
 ·rename_i h1
  rw [if_neg h1]
  exact clrU_cart hd _ _ _ h h0
theorem l6N_cart {xs : List Int} {l : List OpV} (h : cartB xs l = true) {d : Nat} (hd : d < 4) {kind : Int} {item : ByteArray} {qty dv sq : Int} (h0 : (l6N xs l d kind item qty dv sq).1 = 0) : cartB (l6N xs l d kind item qty dv sq).2.1 (l6N xs l d kind item qty dv sq).2.2 = true := by
 unfold l6N at h0 ⊢
 split at h0
 ·rename_i h1
  rw [if_pos h1]
  exact clrN_cart h hd h0
 ·rename_i h1
  rw [if_neg h1]
  split at h0
  ·rename_i h1
   rw [if_pos h1]
   exact tglN_cart h h0
  ·rename_i h1
   rw [if_neg h1]
   split at h0
   ·rename_i h1
    rw [if_pos h1]
    exact tglN_cart h h0
   ·rename_i h1
    rw [if_neg h1]
    split at h0
    ·rename_i h1
     rw [if_pos h1]
     exact tglN_cart h h0
    ·rename_i h1
     rw [if_neg h1]
     exact oneN_cart h hd h0
/-- Whatever is answered: the form is wrong and there is nothing, or it is a right cart. -/
theorem issueN_cart (xs : List Int) (l : List OpV) (dev kind : Int) (item : ByteArray) (qty dv sq : Int) : issueN xs l dev kind item qty dv sq = (1, [], []) ∨ cartB (issueN xs l dev kind item qty dv sq).2.1 (issueN xs l dev kind item qty dv sq).2.2 = true := by
 unfold issueN
 split
 ·rename_i hok
  right
  have hdv := hok.2.1
  unfold inB at hdv
  have hd := of_decide_eq_true hdv
  split
  ·rename_i h0
   exact l6N_cart hok.1 (by omega) h0
  ·exact hok.1
 ·exact .inl rfl
theorem issueN_len (xs : List Int) (l : List OpV) (dev kind : Int) (item : ByteArray) (qty dv sq : Int) : (issueN xs l dev kind item qty dv sq).2.1.length ≤ 4 ∧ (issueN xs l dev kind item qty dv sq).2.2.length ≤ 160 := by
 rcases issueN_cart xs l dev kind item qty dv sq with h | h
 ·rw [h]
  exact ⟨by decide, by decide⟩
 ·exact ⟨Nat.le_of_eq (cart_vecs h).1, cart_length h⟩
theorem toCmdL (kind : Int) (item : ByteArray) (qty dev seq : Int) (w : World) : Calls Tryz.prog 10 #[.agg #[.int .i64 kind, .string item, .int .i64 qty, .int .i64 dev, .int .i64 seq]] w fun e w' => e = .returned (.agg #[.int .i64 kind, .string item, .int .i64 qty, .int .i64 dev, .int .i64 seq]) ∧ Below w.heap.size w w' := by
 go_enter Tryz.func10, Tryz.ntmps10
 go_wp2
 refine bodyPost_ret (v := .agg #[.int .i64 kind, .string item, .int .i64 qty, .int .i64 dev, .int .i64 seq]) (by simp [results, Tryz.results10, go_sem]) rfl ⟨rfl, ?_⟩
 go_grown
theorem szCmdNoL (kind : Int) (item : ByteArray) (qty dev seq : Int) (L : Nat) (hL : L ≤ 1048576) (hs : item.size ≤ maxLen) (h : ¬ item.size ≤ L) (w : World) : Calls Tryz.prog 7 #[.agg #[.int .i64 kind, .string item, .int .i64 qty, .int .i64 dev, .int .i64 seq], .int .i64 (L : Int)] w fun e w' => e = .returned (.int .i64 (-1)) ∧ Below w.heap.size w w' := by
 have hd : decide ((L : Int) - (item.size : Int) < 0) = true := decide_eq_true (by omega)
 have hd2 : (L : Int) < (item.size : Int) := by omega
 unfold maxLen at hs
 have hw : IntKind.i64.wrap ((L : Int) - (item.size : Int)) = (L : Int) - (item.size : Int) := IntWalk.i64_in _ (by omega)
 go_enter Tryz.func7, Tryz.ntmps7
 go_wp2
 go_ret
 exact ⟨rfl, bl⟩
theorem szCmdYesL (kind : Int) (item : ByteArray) (qty dev seq : Int) (L : Nat) (hL : L ≤ 1048576) (h : item.size ≤ L) (w : World) : Calls Tryz.prog 7 #[.agg #[.int .i64 kind, .string item, .int .i64 qty, .int .i64 dev, .int .i64 seq], .int .i64 (L : Int)] w fun e w' => e = .returned (.int .i64 ((L : Int) - (item.size : Int))) ∧ Below w.heap.size w w' := by
 have hd : decide ((L : Int) - (item.size : Int) < 0) = false := decide_eq_false (by omega)
 have hw : IntKind.i64.wrap ((L : Int) - (item.size : Int)) = (L : Int) - (item.size : Int) := IntWalk.i64_in _ (by omega)
 go_enter Tryz.func7, Tryz.ntmps7
 go_wp2
 go_ret
 exact ⟨rfl, bl⟩
theorem Errs.kept {w w' : World} {B : Nat} {E : Int → Addr} (h : Errs w B E) (hk : ∀ j, j < B → w'.heap[j]? = w.heap[j]?) : Errs w' B E := by
 have hl := h.low
 refine ⟨h.low, fun c h1 h2 => ?_, fun c h1 h2 => ?_, h.ne, ?_⟩
 ·have := gOf_lt c
  exact (World.cell?_of_block (a := ⟨gOf c, 0, none⟩) (hk _ (by show gOf c < B; omega))).trans (h.cells c h1 h2)
 ·obtain ⟨a, ca, ta, hc⟩ := h.lies c h1 h2
  exact ⟨a, ca, ta, (hk _ (by omega)).trans hc⟩
 ·exact (World.cell?_of_block (a := ⟨1, 0, none⟩) (hk _ (by show 1 < B; omega))).trans h.typ
theorem capsI {w : World} {B : Nat} {a : Option Addr} {n : Nat} {xs : List Int} (h : Ints w B a n xs) (hn : n ≤ 1048576) : Caps a n n := by
 refine ⟨Nat.le_refl _, by unfold CapOk maxLen; omega, fun e => ?_⟩
 rcases Nat.eq_zero_or_pos n with q | q
 ·exact q
 ·obtain ⟨b, o, e2, _⟩ := h.2 0 q
  rw [e] at e2
  cases e2
theorem capsO {w : World} {B : Nat} {a : Option Addr} {n : Nat} {l : List OpV} (h : Ops w B a n l) (hn : n ≤ 1048576) : Caps a n n := by
 refine ⟨Nat.le_refl _, by unfold CapOk maxLen; omega, fun e => ?_⟩
 rcases Nat.eq_zero_or_pos n with q | q
 ·exact q
 ·obtain ⟨b, o, e2, _⟩ := h.2 0 q
  rw [e] at e2
  cases e2
set_option linter.unusedVariables false

/-- The cart behind the first k commands. -/
def iaN (xs : List Int) (l : List OpV) (dev : Int) (cs : List CmV) : Nat → List Int × List OpV
 | 0 => (xs, l)
 | k + 1 => if (issueN (iaN xs l dev cs k).1 (iaN xs l dev cs k).2 dev (cs.getD k CmV.zero).kind (cs.getD k CmV.zero).item (cs.getD k CmV.zero).qty (cs.getD k CmV.zero).dev (cs.getD k CmV.zero).seq).1 = 1 then iaN xs l dev cs k
  else (issueN (iaN xs l dev cs k).1 (iaN xs l dev cs k).2 dev (cs.getD k CmV.zero).kind (cs.getD k CmV.zero).item (cs.getD k CmV.zero).qty (cs.getD k CmV.zero).dev (cs.getD k CmV.zero).seq).2
/-- The codes of the first k commands. -/
def iaC (xs : List Int) (l : List OpV) (dev : Int) (cs : List CmV) : Nat → List Int
 | 0 => []
 | k + 1 => iaC xs l dev cs k ++ [(issueN (iaN xs l dev cs k).1 (iaN xs l dev cs k).2 dev (cs.getD k CmV.zero).kind (cs.getD k CmV.zero).item (cs.getD k CmV.zero).qty (cs.getD k CmV.zero).dev (cs.getD k CmV.zero).seq).1]
theorem iaC_len (xs : List Int) (l : List OpV) (dev : Int) (cs : List CmV) : ∀ k, (iaC xs l dev cs k).length = k
 | 0 => rfl
 | k + 1 => by show (iaC xs l dev cs k ++ [_]).length = _; rw [List.length_append, iaC_len xs l dev cs k]; rfl
theorem iaN_cart {xs : List Int} {l : List OpV} (h : cartB xs l = true) (dev : Int) (cs : List CmV) : ∀ k, cartB (iaN xs l dev cs k).1 (iaN xs l dev cs k).2 = true
 | 0 => h
 | k + 1 => by
  unfold iaN
  split
  ·exact iaN_cart h dev cs k
  ·rename_i h1
   rcases issueN_cart (iaN xs l dev cs k).1 (iaN xs l dev cs k).2 dev (cs.getD k CmV.zero).kind (cs.getD k CmV.zero).item (cs.getD k CmV.zero).qty (cs.getD k CmV.zero).dev (cs.getD k CmV.zero).seq with h2 | h2
   ·rw [h2] at h1
    exact absurd rfl h1
   ·exact h2
/-- What commands one after another answer: the cart and the codes. -/
def iaR (xs : List Int) (l : List OpV) (dev : Int) (cs : List CmV) : (List Int × List OpV) × List Int :=
 if cartB xs l = true ∧ inB dev 0 3 = true ∧ cs.length ≤ 200 then (iaN xs l dev cs cs.length, iaC xs l dev cs cs.length) else (([], []), [])
theorem iaR_len (xs : List Int) (l : List OpV) (dev : Int) (cs : List CmV) : (iaR xs l dev cs).1.1.length ≤ 4 ∧ (iaR xs l dev cs).1.2.length ≤ 160 ∧ (iaR xs l dev cs).2.length ≤ 200 := by
 unfold iaR
 split
 ·rename_i h
  have hc := iaN_cart h.1 dev cs cs.length
  exact ⟨Nat.le_of_eq (cart_vecs hc).1, cart_length hc, by show (iaC _ _ _ _ _).length ≤ _; rw [iaC_len]; exact h.2.2⟩
 ·exact ⟨by decide, by decide, by decide⟩

theorem rowI_keep {W W' : World} {base n : Nat} {v : Value} {xs : List Value} (h : W.ownsRow base 2 1 v n xs) (hk : ∀ k, v.ownBlock = some k → W'.heap[k]? = W.heap[k]?) : W'.ownsRow base 2 1 v n xs := by
 refine ⟨h.1, ?_⟩
 rcases h.2 with h2 | ⟨g, cap, cur, e, hg, hc, r⟩
 ·exact .inl h2
 ·exact .inr ⟨g, cap, cur, e, hg, (hk g (by rw [e]; rfl)).trans hc, r⟩
/-- What the loop keeps: the cart's variable nb, the cart's rows, the row of codes. -/
def IaI (ord : Bool) (lo nb : Nat) (zs : List Int) (m : List OpV) (cv : Value) (k : Nat) (cs : List Int) (W : World) : Prop :=
 ∃ va vc oa oc l1 h1 l2 h2, W.heap[nb]? = some (.cells #[.slice va zs.length vc, .slice oa m.length oc] 32 (0, 0)) ∧ Own W l1 h1 va zs.length zs ∧ OwnOps W l2 h2 oa m.length m ∧ Caps va zs.length vc ∧ Caps oa m.length oc ∧
  (lo ≤ l1 ∧ l1 ≤ h1 ∧ lo ≤ l2 ∧ l2 ≤ h2 ∧ h1 ≤ W.heap.size ∧ h2 ≤ W.heap.size ∧ (ord = true → h1 = l2)) ∧ W.ownsRow lo 2 1 cv k (cs.map (Value.int .i64)) ∧ ∀ b, cv.ownBlock = some b → b ≠ nb ∧ (b < l1 ∨ h1 ≤ b) ∧ (b < l2 ∨ h2 ≤ b)
theorem IaI.below {ord : Bool} {lo nb k : Nat} {zs : List Int} {m : List OpV} {cv : Value} {cs : List Int} {W W' : World} (h : IaI ord lo nb zs m cv k cs W) (hb : Below W.heap.size W W') : IaI ord lo nb zs m cv k cs W' := by
 obtain ⟨va, vc, oa, oc, l1, h1, l2, h2, hn, hi, ho, c1, c2, ⟨a1, a2, a3, a4, a5, a6, a7⟩, hr, hd⟩ := h
 have := hb.size
 exact ⟨va, vc, oa, oc, l1, h1, l2, h2, (hb.block _ (Array.getElem?_eq_some_iff.1 hn).1).trans hn, hi.below hb a5, ho.below hb a6, c1, c2, ⟨a1, a2, a3, a4, by omega, by omega, a7⟩, rowI_keep hr (fun b e => hb.block b (hr.lt b e).2), hd⟩
/-- The cart's variable takes another cart, whose rows are new. -/
theorem IaI.set {ord : Bool} {lo nb k : Nat} {zs : List Int} {m : List OpV} {cv : Value} {cs : List Int} {W W' : World} (h : IaI ord lo nb zs m cv k cs W) (hb : Below W.heap.size W W') {zs' : List Int} {m' : List OpV} {va oa : Option Addr} {vc oc l1 h1 l2 h2 : Nat}
  (hi : Own W' l1 h1 va zs'.length zs') (ho : OwnOps W' l2 h2 oa m'.length m') (c1 : Caps va zs'.length vc) (c2 : Caps oa m'.length oc) (a1 : W.heap.size ≤ l1) (a2 : l1 ≤ h1) (a3 : W.heap.size ≤ l2) (a4 : l2 ≤ h2) (a5 : h1 ≤ W'.heap.size) (a6 : h2 ≤ W'.heap.size) (a7 : ord = true → h1 = l2) :
  IaI ord lo nb zs' m' cv k cs ((W'.setCell ⟨nb, 0, none⟩ (.slice va zs'.length vc)).setCell ⟨nb, 1, none⟩ (.slice oa m'.length oc)) := by
 obtain ⟨va0, vc0, oa0, oc0, _, _, _, _, hn, _, _, _, _, ⟨b1, b2, b3, b4, b5, b6, b7⟩, hr, hd⟩ := h.below hb
 obtain ⟨_, _, _, _, _, _, _, _, hn0, _, _, _, _, ⟨d1, d2, d3, d4, d5, d6, d7⟩, hr0, _⟩ := h
 have hs := hb.size
 have hnb := (Array.getElem?_eq_some_iff.1 hn0).1
 refine ⟨va, vc, oa, oc, l1, h1, l2, h2, pair_set _ _ hn, hi.kept (fun j x y => pair_other _ _ (by omega)), ho.kept (fun j x y => pair_other _ _ (by omega)), c1, c2, ⟨by omega, a2, by omega, a4, by rw [pair_size]; omega, by rw [pair_size]; omega, a7⟩, rowI_keep hr (fun b e => pair_other _ _ (hd b e).1), fun b e => ⟨(hd b e).1, .inl ?_, .inl ?_⟩⟩
 ·have := (hr0.lt b e).2; omega
 ·have := (hr0.lt b e).2; omega
/-- A code more. -/
theorem IaI.app {ord : Bool} {lo nb k g cap : Nat} {zs : List Int} {m : List OpV} {cv : Value} {cs cs' : List Int} {W W1 W' : World} (h : IaI ord lo nb zs m cv k cs W) (hb : Below W.heap.size W W1) (hgrow : W1.grownBy W' cv.ownBlock) (hown : W'.ownsRow lo 2 1 (.slice (some ⟨g, 0, none⟩) (k + 1) cap) (k + 1) (cs'.map (Value.int .i64))) (hat : cv.ownBlock = some g ∨ g = W1.heap.size) :
  IaI ord lo nb zs m (.slice (some ⟨g, 0, none⟩) (k + 1) cap) (k + 1) cs' W' := by
 obtain ⟨va, vc, oa, oc, l1, h1, l2, h2, hn, hi, ho, c1, c2, ⟨a1, a2, a3, a4, a5, a6, a7⟩, hr, hd⟩ := h.below hb
 have hs := hgrow.size
 have hnl := (Array.getElem?_eq_some_iff.1 hn).1
 refine ⟨va, vc, oa, oc, l1, h1, l2, h2, (hgrow.block nb hnl (fun e => (hd nb e.symm).1 rfl)).trans hn, hi.kept (fun j x y => hgrow.block j (by omega) (fun e => by have := (hd j e.symm).2.1; omega)), ho.kept (fun j x y => hgrow.block j (by omega) (fun e => by have := (hd j e.symm).2.2; omega)), c1, c2, ⟨a1, a2, a3, a4, by omega, by omega, a7⟩, hown, fun b e => ?_⟩
 have e' : g = b := by injection e
 subst e'
 rcases hat with h' | h'
 ·exact hd g h'
 ·exact ⟨by omega, .inr (by omega), .inr (by omega)⟩
theorem IaI.row {ord : Bool} {lo nb k : Nat} {zs : List Int} {m : List OpV} {cv : Value} {cs : List Int} {W : World} (h : IaI ord lo nb zs m cv k cs W) : W.ownsRow lo 2 1 cv k (cs.map (Value.int .i64)) := by
 obtain ⟨_, _, _, _, _, _, _, _, _, _, _, _, _, _, h12, _⟩ := h
 exact h12
/-- The codes' row lies by itself. -/
theorem IaI.codes {W : World} {lo k l1 h1 : Nat} {v : Value} {cs : List Int} (hr : W.ownsRow lo 2 1 v k (cs.map (Value.int .i64))) (hd : ∀ b, v.ownBlock = some b → b < l1 ∨ h1 ≤ b) (hl : lo ≤ l1) (hs : lo ≤ W.heap.size) :
  ∃ ca cc c1 c2, v = .slice ca cs.length cc ∧ Own W c1 c2 ca cs.length cs ∧ lo ≤ c1 ∧ c1 ≤ c2 ∧ c2 ≤ W.heap.size ∧ (c2 ≤ l1 ∨ h1 ≤ c1) ∧ Caps ca cs.length cc := by
 have hk : cs.length = k := by have := hr.1; simpa using this
 rcases hr.2 with ⟨e, h0⟩ | ⟨g, cap, cur, e, hg, hc, hcap, hmax, hsz, ht⟩
 ·subst e
  have h0' : cs.length = 0 := by omega
  refine ⟨none, 0, lo, lo, by rw [h0'], ⟨rfl, fun hn => absurd hn (by omega)⟩, Nat.le_refl _, Nat.le_refl _, hs, .inl hl, ?_⟩
  rw [h0']
  exact caps_nil
 ·subst e
  have hlt := (Array.getElem?_eq_some_iff.1 hc).1
  have ho := own_of_row (hi := W.heap.size) hr (Nat.le_refl _)
  rw [← hk] at hr ho ⊢
  refine ⟨some ⟨g, 0, none⟩, cap, g, g + 1, rfl, ⟨rfl, fun hn => ?_⟩, hg, by omega, hlt, ?_, caps_of_row hr⟩
  ·obtain ⟨g', cur', e', _, _, r⟩ := ho.2 hn
   have : g' = g := by injection e' with e'; injection e' with e' _; exact e'.symm
   subst this
   exact ⟨g', cur', e', Nat.le_refl _, by omega, r⟩
  ·rcases hd g rfl with h' | h'
   ·exact .inl (by omega)
   ·exact .inr h'
theorem share6i {G : Prop} {F : Nat → Option Addr → Nat → Option Addr → Nat → World → Prop} (T : Nat → Option Addr → Nat → Option Addr → Nat → World → Prop) (h1 : (∀ a b c d e f, F a b c d e f → T a b c d e f) → G) (h2 : ∀ a b c d e f, F a b c d e f → T a b c d e f) : G := h1 h2
set_option linter.unusedVariables false
set_option linter.unusedSimpArgs false

/-- What the model's walk answers. -/
def IaSP (r : (List Int × List OpV) × List Int) (w : World) (e : Ending) (w' : World) : Prop :=
 ∃ va vc oa oc ka kc, e = .returned (.tuple #[.agg #[.slice va r.1.1.length vc, .slice oa r.1.2.length oc], .slice ka r.2.length kc]) ∧ Ints w' w'.heap.size va r.1.1.length r.1.1 ∧ Ops w' w'.heap.size oa r.1.2.length r.1.2 ∧ Ints w' w'.heap.size ka r.2.length r.2 ∧ Below w.heap.size w w'
theorem IaSP.nil {w w' : World} {g : Nat} (h : Below w.heap.size w w') : IaSP (([], []), []) w (.returned (.tuple #[.agg #[.slice none 0 0, .slice none 0 0], .slice (some ⟨g, 0, none⟩) 0 0])) w' :=
 ⟨none, 0, none, 0, some ⟨g, 0, none⟩, 0, rfl, ⟨rfl, fun i hi => absurd hi (by simp)⟩, ⟨rfl, fun i hi => absurd hi (by simp)⟩, ⟨rfl, fun i hi => absurd hi (by simp)⟩, h⟩
set_option maxHeartbeats 40000000 in
theorem specIssueAll (w : World) (B : Nat) (av ao ka : Option Addr) (nv cv no co nk ck : Nat) (xs : List Int) (l : List OpV) (cs : List CmV) (dev : Int) (hx : Ints w B av nv xs) (h : Ops w B ao no l) (hk : Cms w B ka nk cs) (hB : B ≤ w.heap.size) (hcv : Caps av nv cv) (hco : Caps ao no co) (hm : ∀ i, i < no → (atOp l i).item.size ≤ 1048576) (hkm : ∀ i, i < nk → (cs.getD i CmV.zero).item.size ≤ 1048576) (hv : nv ≤ 1048576) (hn : no ≤ 1048576) (hnk : nk ≤ 1048576) :
  Calls Tryz.prog 16 #[.agg #[.slice av nv cv, .slice ao no co], .int .i64 dev, .slice ka nk ck] w (IaSP (iaR xs l dev cs) w) := by
 obtain ⟨i0, hi, hz0, hz1, hz2⟩ := info_parts Tryz.infoI64
 have hT := Two.mk0 w #[.slice av nv cv, .slice ao no co] #[.slice none 0 0, .slice none 0 0] 32
 have HV := Lib.hid (hx.below hT.bel hB)
 have HO := Lib.hid (h.below hT.bel hB)
 have HK := Lib.hid (hk.below hT.bel hB)
 have HT := Lib.hid hT
 have HM := Lib.hid hm
 have HKm := Lib.hid hkm
 have HCv := Lib.hid hcv
 have HCo := Lib.hid hco
 have HLk : Hid (cs.length = nk) := hk.1
 clear hx h hk hT hm hkm hcv hco
 go_enter Tryz.func16, Tryz.ntmps16
 go_upto_region 1 with fail
 generalize (w.alloc (.cells #[.slice av nv cv, .slice ao no co] 32)).alloc (.cells #[.slice none 0 0, .slice none 0 0] 32) = w0 at HV HO HK HT ⊢
 have hs0 : w.heap.size + 1 < w0.heap.size := (Array.getElem?_eq_some_iff.1 HT.out.snd).1
 have HR0 : Hid ((w0.alloc (.cells #[] 2)).ownsRow w0.heap.size 2 1 (.slice (some ⟨w0.heap.size, 0, none⟩) 0 0) 0 ([].map (Value.int .i64))) := World.ownsRow_made w0 #[] 0 (Nat.le_refl _) (by unfold maxLen; omega) rfl
 have hbA : Below w0.heap.size w0 (w0.alloc (.cells #[] 2)) := bl
 go_upto_region 2 with fail
 have hsA : w0.heap.size < (w0.alloc (.cells #[] 2)).heap.size := by simp
 obtain ⟨q0, q1⟩ := pair_cells ((hbA.block _ (Array.getElem?_eq_some_iff.1 HT.out.fst).1).trans HT.out.fst)
 generalize w0.alloc (.cells #[] 2) = w1 at HR0 hbA hsA q0 q1 ⊢
 have HB1 := Lib.hid hbA
 clear hbA
 have HV1 := Lib.hid (HV.out.below HB1.out (Nat.le_trans hB (by omega)))
 have HO1 := Lib.hid (HO.out.below HB1.out (Nat.le_trans hB (by omega)))
 have HK1 := Lib.hid (HK.out.below HB1.out (Nat.le_trans hB (by omega)))
 go_wp2_with fail
 refine (specCartOk w1 B av ao nv cv no co xs l HV1.out HO1.out (Nat.le_trans hB (by omega)) hv hn HM.out).mono ?_
 obtain ⟨cb, hcb⟩ : ∃ b, cartB xs l = b := ⟨_, rfl⟩
 have HCb := Lib.hid hcb
 rw [hcb]
 clear hcb
 rintro e w2 ⟨rfl, hb⟩
 have hs2 := hb.size
 have HB2 := Lib.hid (HB1.out.trans (hb.mono (by omega)))
 have HV2 := Lib.hid (HV1.out.below hb (Nat.le_trans hB (by omega)))
 have HO2 := Lib.hid (HO1.out.below hb (Nat.le_trans hB (by omega)))
 have HK2 := Lib.hid (HK1.out.below hb (Nat.le_trans hB (by omega)))
 have HR2 := Lib.hid (rowI_keep HR0.out (fun b e => hb.block b (HR0.out.lt b e).2))
 clear hb q0 q1 HB1 HV1 HO1 HK1 HR0
 cases cb
 ·clear hi hz0 hz1 hz2
  have hbad : iaR xs l dev cs = (([], []), []) := if_neg (by rintro ⟨a1, a2, a3⟩; exact Bool.false_ne_true (HCb.out.symm.trans a1))
  have HBad := Lib.hid hbad
  clear hbad
  have HTx := Lib.hid (Two.mk (w := w) (w1 := w2) ((HB2.out.block _ (Array.getElem?_eq_some_iff.1 HT.out.fst).1).trans HT.out.fst) ((HB2.out.block _ (Array.getElem?_eq_some_iff.1 HT.out.snd).1).trans HT.out.snd) (HT.out.bel.trans (HB2.out.mono (by omega))))
  obtain ⟨r0, r1⟩ := pair_cells HTx.out.snd
  obtain ⟨f0, f1⟩ := pair_frozen HTx.out.snd
  have HX6 := Lib.hid (pair_set (.slice none 0 0) (.slice none 0 0) HTx.out.snd)
  have HI6 : Hid (Below w.heap.size w ((w2.setCell ⟨w.heap.size + 1, 0, none⟩ (.slice none 0 0)).setCell ⟨w.heap.size + 1, 1, none⟩ (.slice none 0 0))) := (HTx.out.bel.setCell (p := ⟨w.heap.size + 1, 0, none⟩) (Nat.le_succ _) _).setCell (p := ⟨w.heap.size + 1, 1, none⟩) (Nat.le_succ _) _
  go_wp2
  generalize (w2.setCell ⟨w.heap.size + 1, 0, none⟩ (.slice none 0 0)).setCell ⟨w.heap.size + 1, 1, none⟩ (.slice none 0 0) = wf at HX6 HI6 ⊢
  obtain ⟨p0, p1⟩ := pair_cells HX6.out
  exact bodyPost_ret (v := .tuple #[.agg #[.slice none 0 0, .slice none 0 0], .slice (some ⟨w0.heap.size, 0, none⟩) 0 0]) (by simp [results, Tryz.results16, go_sem, p0, p1]) rfl (by rw [HBad.out]; exact IaSP.nil HI6.out)
 go_wp2_with fail
 refine (l3Dev dev w2).mono ?_
 rintro e w2' ⟨rfl, rfl⟩
 obtain ⟨db, hdb⟩ : ∃ b, inB dev 0 3 = b := ⟨_, rfl⟩
 have HDb := Lib.hid hdb
 rw [hdb]
 clear hdb
 cases db
 ·clear hi hz0 hz1 hz2
  have hbad : iaR xs l dev cs = (([], []), []) := if_neg (by rintro ⟨a1, a2, a3⟩; exact Bool.false_ne_true (HDb.out.symm.trans a2))
  have HBad := Lib.hid hbad
  clear hbad
  have HTx := Lib.hid (Two.mk (w := w) (w1 := w2) ((HB2.out.block _ (Array.getElem?_eq_some_iff.1 HT.out.fst).1).trans HT.out.fst) ((HB2.out.block _ (Array.getElem?_eq_some_iff.1 HT.out.snd).1).trans HT.out.snd) (HT.out.bel.trans (HB2.out.mono (by omega))))
  obtain ⟨r0, r1⟩ := pair_cells HTx.out.snd
  obtain ⟨f0, f1⟩ := pair_frozen HTx.out.snd
  have HX6 := Lib.hid (pair_set (.slice none 0 0) (.slice none 0 0) HTx.out.snd)
  have HI6 : Hid (Below w.heap.size w ((w2.setCell ⟨w.heap.size + 1, 0, none⟩ (.slice none 0 0)).setCell ⟨w.heap.size + 1, 1, none⟩ (.slice none 0 0))) := (HTx.out.bel.setCell (p := ⟨w.heap.size + 1, 0, none⟩) (Nat.le_succ _) _).setCell (p := ⟨w.heap.size + 1, 1, none⟩) (Nat.le_succ _) _
  go_wp2
  generalize (w2.setCell ⟨w.heap.size + 1, 0, none⟩ (.slice none 0 0)).setCell ⟨w.heap.size + 1, 1, none⟩ (.slice none 0 0) = wf at HX6 HI6 ⊢
  obtain ⟨p0, p1⟩ := pair_cells HX6.out
  exact bodyPost_ret (v := .tuple #[.agg #[.slice none 0 0, .slice none 0 0], .slice (some ⟨w0.heap.size, 0, none⟩) 0 0]) (by simp [results, Tryz.results16, go_sem, p0, p1]) rfl (by rw [HBad.out]; exact IaSP.nil HI6.out)
 by_cases hbig : nk ≤ 200
 rotate_left
 ·clear hi hz0 hz1 hz2
  have hdc : decide ((200 : Int) < (nk : Int)) = true := decide_eq_true (by omega)
  have hdd : (200 : Int) < (nk : Int) := by omega
  have hbad : iaR xs l dev cs = (([], []), []) := if_neg (by rintro ⟨a1, a2, a3⟩; rw [HLk.out] at a3; omega)
  have HBad := Lib.hid hbad
  clear hbad
  have HTx := Lib.hid (Two.mk (w := w) (w1 := w2) ((HB2.out.block _ (Array.getElem?_eq_some_iff.1 HT.out.fst).1).trans HT.out.fst) ((HB2.out.block _ (Array.getElem?_eq_some_iff.1 HT.out.snd).1).trans HT.out.snd) (HT.out.bel.trans (HB2.out.mono (by omega))))
  obtain ⟨r0, r1⟩ := pair_cells HTx.out.snd
  obtain ⟨f0, f1⟩ := pair_frozen HTx.out.snd
  have HX6 := Lib.hid (pair_set (.slice none 0 0) (.slice none 0 0) HTx.out.snd)
  have HI6 : Hid (Below w.heap.size w ((w2.setCell ⟨w.heap.size + 1, 0, none⟩ (.slice none 0 0)).setCell ⟨w.heap.size + 1, 1, none⟩ (.slice none 0 0))) := (HTx.out.bel.setCell (p := ⟨w.heap.size + 1, 0, none⟩) (Nat.le_succ _) _).setCell (p := ⟨w.heap.size + 1, 1, none⟩) (Nat.le_succ _) _
  go_wp2
  generalize (w2.setCell ⟨w.heap.size + 1, 0, none⟩ (.slice none 0 0)).setCell ⟨w.heap.size + 1, 1, none⟩ (.slice none 0 0) = wf at HX6 HI6 ⊢
  obtain ⟨p0, p1⟩ := pair_cells HX6.out
  exact bodyPost_ret (v := .tuple #[.agg #[.slice none 0 0, .slice none 0 0], .slice (some ⟨w0.heap.size, 0, none⟩) 0 0]) (by simp [results, Tryz.results16, go_sem, p0, p1]) rfl (by rw [HBad.out]; exact IaSP.nil HI6.out)
 have hdc : decide ((200 : Int) < (nk : Int)) = false := decide_eq_false (by omega)
 have hgood : iaR xs l dev cs = (iaN xs l dev cs nk, iaC xs l dev cs nk) := by
  unfold iaR
  rw [if_pos ⟨HCb.out, HDb.out, by rw [HLk.out]; exact hbig⟩, HLk.out]
 have HGood := Lib.hid hgood
 clear hgood
 obtain ⟨q0, q1⟩ := pair_cells ((HB2.out.block _ (Array.getElem?_eq_some_iff.1 HT.out.fst).1).trans HT.out.fst)
 go_wp2_with fail
 refine (l4Copy w2 B av ao nv cv no co xs l HV2.out HO2.out (Nat.le_trans hB (by omega)) HCv.out.2.2 HCo.out.2.2 hv hn).mono ?_
 rintro e w3 ⟨ra, rc, sa, sc, rfl, ho1, ho2, hb, hq1, hq2⟩
 have hs3 := hb.size
 have HB3 := Lib.hid (HB2.out.trans (hb.mono (by omega)))
 have HR3 := Lib.hid (rowI_keep HR2.out (fun b e => hb.block b (HR2.out.lt b e).2))
 have hr2 := HR2.out.lt
 have HK3 := Lib.hid (HK2.out.below hb (Nat.le_trans hB (by omega)))
 clear hb q0 q1
 have hbB : Below w3.heap.size w3 (w3.alloc (.cells #[.slice ra xs.length rc, .slice sa l.length sc] 32)) := bl
 have hN4 := heap_alloc_new w3 (.cells #[.slice ra xs.length rc, .slice sa l.length sc] 32)
 go_upto_region 5 with fail
 generalize w3.alloc (.cells #[.slice ra xs.length rc, .slice sa l.length sc] 32) = w4 at hbB hN4 ⊢
 have hs4 := hbB.size
 have hl4 := (Array.getElem?_eq_some_iff.1 hN4).1
 have HB4 := Lib.hid (HB3.out.trans (hbB.mono (by omega)))
 generalize hnb : w3.heap.size = nb at hN4 hl4 ⊢
 have HI4 : Hid (IaI false w0.heap.size nb xs l (.slice (some ⟨w0.heap.size, 0, none⟩) 0 0) 0 [] w4) := ⟨ra, rc, sa, sc, w2.heap.size, w3.heap.size, w2.heap.size, w3.heap.size, hN4, ho1.below hbB (Nat.le_refl _), ho2.below hbB (Nat.le_refl _), hq1, hq2, ⟨by omega, by omega, by omega, by omega, by omega, by omega, fun h => Bool.noConfusion h⟩, rowI_keep HR3.out (fun b e => hbB.block b (HR3.out.lt b e).2), fun b e => by
  have := hr2 b e
  exact ⟨by omega, .inl (by omega), .inl (by omega)⟩⟩
 have HK4 := Lib.hid (HK3.out.below hbB (Nat.le_trans hB (by omega)))
 clear hbB hN4 ho1 ho2 hq1 hq2 HR3 HR2 hr2 HB2 HB3 HV2 HO2 HK2 HK3
 go_wp2
 have HTs := Lib.hid (HT.out.snd)
 have hnb0 : w0.heap.size ≤ nb := by omega
 go_loopw [8, 10] (fun cv i wr => ∃ k : Nat, k ≤ nk ∧ i = .int .i64 (k : Int) ∧ Hid (IaI false w0.heap.size nb (iaN xs l dev cs k).1 (iaN xs l dev cs k).2 cv k (iaC xs l dev cs k) wr) ∧ Hid (Below w0.heap.size w0 wr)) (fun _ i _ => nk - (intOf i).toNat)
 case atStart => exact ⟨0, Nat.zero_le _, rfl, HI4, HB4⟩
 case round =>
  obtain ⟨k, hk, rfl, HI, HB⟩ := hrel
  by_cases hlt : k < nk
  ·have hki : (k : Int) < (nk : Int) := by omega
   have hk0 : (0 : Int) ≤ (k : Int) := by omega
   have hcz := iaN_cart HCb.out dev cs k
   obtain ⟨zs, hzs⟩ : ∃ z, (iaN xs l dev cs k).1 = z := ⟨_, rfl⟩
   obtain ⟨m, hms⟩ : ∃ z, (iaN xs l dev cs k).2 = z := ⟨_, rfl⟩
   obtain ⟨x, hxk⟩ : ∃ x, cs.getD k CmV.zero = x := ⟨_, rfl⟩
   obtain ⟨r, hr⟩ : ∃ r, issueN zs m dev x.kind x.item x.qty x.dev x.seq = r := ⟨_, rfl⟩
   have hN1 : iaN xs l dev cs (k + 1) = if r.1 = 1 then iaN xs l dev cs k else r.2 := by
    show (if _ then _ else _) = _
    rw [hzs, hms, hxk, hr]
   have hC1 : iaC xs l dev cs (k + 1) = iaC xs l dev cs k ++ [r.1] := by
    show iaC xs l dev cs k ++ [_] = _
    rw [hzs, hms, hxk, hr]
   have HN1 := Lib.hid hN1
   have HC1 := Lib.hid hC1
   have HRr := Lib.hid hr
   have hix : x.item.size ≤ 1048576 := by rw [← hxk]; exact HKm.out k hlt
   have hzm : iaN xs l dev cs k = (zs, m) := by rw [← hzs, ← hms]
   have HZm := Lib.hid hzm
   have HI1 := HI.out
   rw [hzs, hms] at hcz HI1
   have hrl := issueN_len zs m dev x.kind x.item x.qty x.dev x.seq
   have hz4 := (cart_vecs hcz).1
   have hm160 := cart_length hcz
   have him : ∀ i, i < m.length → (atOp m i).item.size ≤ 1048576 := fun i hi => Nat.le_trans (op_bounds (cart_op hcz hi)).2.2.2.2.1 (by omega)
   rw [hr] at hrl
   have HHi := Lib.hid him
   have Hz4 := Lib.hid hz4
   have Hm160 := Lib.hid hm160
   have Hrl := Lib.hid hrl
   clear hN1 hC1 hr hzm hzs hms hcz hrl him hz4 hm160
   have HIx := Lib.hid HI1
   obtain ⟨va, vc, oa, oc, l1, h1, l2, h2, hn, hi', ho', c1, c2, hnums, hrow, hdis⟩ := HI1
   obtain ⟨b, off, rfl, hb, ho⟩ := HK4.out.2 k hlt
   rw [hxk] at ho
   have hbs : b < w4.heap.size := by have := HB4.out.size; omega
   have hcm : CmAt wr b (off + k * 5) x := by
    obtain ⟨_, _, e3, hb3, ho3⟩ := (HK.out.below HB.out (Nat.le_trans hB (by omega))).2 k hlt
    injection e3 with e3
    injection e3 with e4 e5 _
    subst e4 e5
    rw [← hxk]
    exact ho3
   clear ho
   have hbw : b < wr.heap.size := by have := HB.out.size; omega
   have HXk := Lib.hid hxk
   clear hxk
   have HCm := Lib.hid hcm
   clear hcm
   have hnlt : nb < wr.heap.size := (Array.getElem?_eq_some_iff.1 hn).1
   have Hn := Lib.hid hn
   have Hi := Lib.hid hi'
   have Ho := Lib.hid ho'
   have Hc1 := Lib.hid c1
   have Hc2 := Lib.hid c2
   have Hnum := Lib.hid hnums
   clear hn hi' ho' c1 c2 hnums hrow hdis
   go_upto_region 8 with fail
   rename_i KR hKR
   obtain ⟨wd, hz⟩ : ∃ z, z = wr.drew := ⟨_, rfl⟩
   have hbd : Below wr.heap.size wr wd := by rw [hz]; exact ⟨rfl, rfl, rfl, Nat.le_refl _, fun _ _ => rfl⟩
   have hsd := hbd.size
   have hSk : ∀ z, Below wd.heap.size wd z → z.cell? ⟨nb, 0, none⟩ = some (.slice va zs.length vc) ∧ z.cell? ⟨nb, 1, none⟩ = some (.slice oa m.length oc) ∧ z.cell? ⟨b, off + k * 5, none⟩ = some (.int .i64 x.kind) ∧ z.cell? ⟨b, off + k * 5 + 1, none⟩ = some (.string x.item) ∧ z.cell? ⟨b, off + k * 5 + 2, none⟩ = some (.int .i64 x.qty) ∧ z.cell? ⟨b, off + k * 5 + 3, none⟩ = some (.int .i64 x.dev) ∧ z.cell? ⟨b, off + k * 5 + 4, none⟩ = some (.int .i64 x.seq) := fun z hb' => by
    have hb2 := hbd.trans (hb'.mono hsd)
    obtain ⟨c0, c1⟩ := pair_cells ((hb2.block _ hnlt).trans Hn.out)
    obtain ⟨d0, d1, d2, d3, d4⟩ := HCm.out.kept (hb2.block _ hbw)
    exact ⟨c0, c1, d0, d1, d2, d3, d4⟩
   refine wp_region_held_drew (S := fun w' => w'.cell? ⟨nb, 0, none⟩ = some (.slice va zs.length vc) ∧ w'.cell? ⟨nb, 1, none⟩ = some (.slice oa m.length oc) ∧ w'.cell? ⟨b, off + k * 5, none⟩ = some (.int .i64 x.kind) ∧ w'.cell? ⟨b, off + k * 5 + 1, none⟩ = some (.string x.item) ∧ w'.cell? ⟨b, off + k * 5 + 2, none⟩ = some (.int .i64 x.qty) ∧ w'.cell? ⟨b, off + k * 5 + 3, none⟩ = some (.int .i64 x.dev) ∧ w'.cell? ⟨b, off + k * 5 + 4, none⟩ = some (.int .i64 x.seq)) (by kernel_rfl) (by rw [← hz]; exact hSk wd (Below.refl _ _)) (fun hHeld => ?_)
   rw [← hz] at hHeld ⊢
   clear hz
   refine tk 0 ⟨some 38, .load 32 (.tmp 9), 32, "l06_commands.go:180", #[], none⟩ ?_
   (try simp only [Act.put, u1, u2, u3])
   refine tk 1 ⟨some 39, .move (.tmp 1), 2, "l06_commands.go:180", #[], none⟩ ?_
   (try simp only [Act.put, u1, u2, u3])
   refine tk 2 ⟨some 40, .move (.tmp 2), 45, "l06_commands.go:180", #[], none⟩ ?_
   (try simp only [Act.put, u1, u2, u3])
   refine tk 3 ⟨some 41, .move (.tmp 10), 3, "l06_commands.go:180", #[], none⟩ ?_
   (try simp only [Act.put, u1, u2, u3])
   refine tk 4 ⟨some 42, .indexAddr 45 (.tmp 40) (.tmp 41), 0, "l06_commands.go:180", #[⟨2, .data⟩, ⟨3, .data⟩], none⟩ ?_
   (try simp only [Act.put, u1, u2, u3])
   refine tk 5 ⟨some 43, .load 36 (.tmp 42), 36, "l06_commands.go:180", #[⟨4, .data⟩], none⟩ ?_
   (try simp only [Act.put, u1, u2, u3])
   apply share6i (F := fun nW sva svc soa soc wT => Below wd.heap.size wd wT ∧ wd.heap.size ≤ nW ∧ wT.heap[nW]? = some (.cells #[.slice none 0 0, .slice none 0 0] 32 (0, 0)) ∧ ∃ lo hi, Own wT lo hi sva r.2.1.length r.2.1 ∧ OwnOps wT lo hi soa r.2.2.length r.2.2 ∧ Caps sva r.2.1.length svc ∧ Caps soa r.2.2.length soc ∧ wd.heap.size ≤ lo ∧ lo ≤ hi ∧ hi ≤ wT.heap.size ∧ (nW < lo ∨ hi ≤ nW))
   case h1 =>
    intro hT
    have g0 : Below wd.heap.size wd wd := Below.refl _ _
    refine wpAnyH_ready (rs := [6, 10]) (by kernel_rfl) (by simp) ?_
    refine AllReadyH.cons rfl (fun K hK => ?_) (AllReadyH.cons rfl (fun K hK => ?_) AllReadyH.nil)
    ·
     go_simp
     go_at_call 8
     have hg2 := hbd.trans (g0.mono hsd)
     have hsp := specIssueA wd wd.heap.size va oa zs.length vc m.length oc zs m x.kind x.qty x.dev x.seq x.item ((Hi.out.ints.below hg2 Hnum.out.2.2.2.2.1).more (Nat.le_trans Hnum.out.2.2.2.2.1 hg2.size)) ((Ho.out.ops.below hg2 Hnum.out.2.2.2.2.2.1).more (Nat.le_trans Hnum.out.2.2.2.2.2.1 hg2.size)) (Nat.le_refl _) Hc1.out Hc2.out hix dev HHi.out (by have := Hz4.out; omega) (by have := Hm160.out; omega)
     rw [HRr.out] at hsp
     refine hsp.mono ?_
     rintro e y1 ⟨sva, svc, soa, soc, rfl, hiR, hoR, t1, hcR1, hcR2⟩
     have gy1 : Below wd.heap.size wd y1 := g0.trans (t1.mono g0.size)
     have sy1 := t1.size
     have sgy1 := g0.size
     refine hK.out _ _ (hSk y1 gy1) (fun _ => ?_)
     clear hK K hsp hg2
     (try simp only [Act.put, u1, u2, u3])
     refine tk 7 ⟨some 37, .move (.tmp 44), 33, "l06_commands.go:180", #[⟨6, .data⟩], none⟩ ?_
     (try simp only [Act.put, u1, u2, u3])
     refine tk 8 ⟨some 45, .extract (.tmp 37) 0, 32, "l06_commands.go:180", #[⟨7, .data⟩], none⟩ ?_
     (try simp only [Act.put, u1, u2, u3])
     refine tk 9 ⟨some 46, .extract (.tmp 37) 1, 2, "l06_commands.go:180", #[⟨7, .data⟩, { on := 11, ground := Ground.gcOnly Departure.lateStores }], none⟩ ?_
     (try simp only [Act.put, u1, u2, u3])
     refine rk 10 rfl (fun K hK => ?_)
     have t2 : Below y1.heap.size y1 (y1.alloc (.cells #[.slice none 0 0, .slice none 0 0] 32)) := bl
     have hSy2 := hSk (y1.alloc (.cells #[.slice none 0 0, .slice none 0 0] 32)) (gy1.trans (t2.mono gy1.size))
     have vy2 : (y1.alloc (.cells #[.slice none 0 0, .slice none 0 0] 32)).heap[y1.heap.size]? = some (.cells #[.slice none 0 0, .slice none 0 0] 32 (0, 0)) := heap_alloc_new _ _
     go_simp
     refine hK.out _ _ hSy2 (fun _ => ?_)
     clear hK K hSy2
     (try simp only [Act.put, u1, u2, u3])
     generalize (y1.alloc (.cells #[.slice none 0 0, .slice none 0 0] 32)) = y2 at t2 vy2 ⊢
     have vly2 : y1.heap.size < y2.heap.size := (Array.getElem?_eq_some_iff.1 vy2).1
     have gy2 : Below wd.heap.size wd y2 := gy1.trans (t2.mono gy1.size)
     have sy2 := t2.size
     have sgy2 := gy1.size
     obtain ⟨nW, hnW⟩ : ∃ nW, nW = y1.heap.size := ⟨_, rfl⟩
     rw [← hnW] at vy2 ⊢
     have hnw1 : nW ≤ y1.heap.size := Nat.le_of_eq hnW
     have hnw2 : y1.heap.size ≤ nW := Nat.le_of_eq hnW.symm
     clear hnW
     exact wpAnyH_listed (l' := #[true, true, true, true, true, true, true, true, true, true, true, false, false]) (by kernel_rfl) (hT nW sva svc soa soc y2 ⟨gy2, by omega, vy2, wd.heap.size, y1.heap.size, hiR.below t2 (Nat.le_refl _), hoR.below t2 (Nat.le_refl _), hcR1, hcR2, Nat.le_refl _, by omega, by omega, .inr (by omega)⟩)
    ·
     have t3 : Below wd.heap.size wd (wd.alloc (.cells #[.slice none 0 0, .slice none 0 0] 32)) := bl
     have hSy3 := hSk (wd.alloc (.cells #[.slice none 0 0, .slice none 0 0] 32)) (g0.trans (t3.mono g0.size))
     have vy3 : (wd.alloc (.cells #[.slice none 0 0, .slice none 0 0] 32)).heap[wd.heap.size]? = some (.cells #[.slice none 0 0, .slice none 0 0] 32 (0, 0)) := heap_alloc_new _ _
     go_simp
     refine hK.out _ _ hSy3 (fun _ => ?_)
     clear hK K hSy3
     (try simp only [Act.put, u1, u2, u3])
     generalize (wd.alloc (.cells #[.slice none 0 0, .slice none 0 0] 32)) = y3 at t3 vy3 ⊢
     have vly3 : wd.heap.size < y3.heap.size := (Array.getElem?_eq_some_iff.1 vy3).1
     have gy3 : Below wd.heap.size wd y3 := g0.trans (t3.mono g0.size)
     have sy3 := t3.size
     have sgy3 := g0.size
     obtain ⟨nW, hnW⟩ : ∃ nW, nW = wd.heap.size := ⟨_, rfl⟩
     rw [← hnW] at vy3 ⊢
     have hnw1 : nW ≤ wd.heap.size := Nat.le_of_eq hnW
     have hnw2 : wd.heap.size ≤ nW := Nat.le_of_eq hnW.symm
     clear hnW
     refine rk 6 rfl (fun K hK => ?_)
     go_simp
     go_at_call 8
     have hg2 := hbd.trans (gy3.mono hsd)
     have hsp := specIssueA y3 y3.heap.size va oa zs.length vc m.length oc zs m x.kind x.qty x.dev x.seq x.item ((Hi.out.ints.below hg2 Hnum.out.2.2.2.2.1).more (Nat.le_trans Hnum.out.2.2.2.2.1 hg2.size)) ((Ho.out.ops.below hg2 Hnum.out.2.2.2.2.2.1).more (Nat.le_trans Hnum.out.2.2.2.2.2.1 hg2.size)) (Nat.le_refl _) Hc1.out Hc2.out hix dev HHi.out (by have := Hz4.out; omega) (by have := Hm160.out; omega)
     rw [HRr.out] at hsp
     refine hsp.mono ?_
     rintro e y4 ⟨sva, svc, soa, soc, rfl, hiR, hoR, t4, hcR1, hcR2⟩
     have gy4 : Below wd.heap.size wd y4 := gy3.trans (t4.mono gy3.size)
     have sy4 := t4.size
     have sgy4 := gy3.size
     refine hK.out _ _ (hSk y4 gy4) (fun _ => ?_)
     clear hK K hsp hg2
     (try simp only [Act.put, u1, u2, u3])
     refine tk 7 ⟨some 37, .move (.tmp 44), 33, "l06_commands.go:180", #[⟨6, .data⟩], none⟩ ?_
     (try simp only [Act.put, u1, u2, u3])
     refine tk 8 ⟨some 45, .extract (.tmp 37) 0, 32, "l06_commands.go:180", #[⟨7, .data⟩], none⟩ ?_
     (try simp only [Act.put, u1, u2, u3])
     refine tk 9 ⟨some 46, .extract (.tmp 37) 1, 2, "l06_commands.go:180", #[⟨7, .data⟩, { on := 11, ground := Ground.gcOnly Departure.lateStores }], none⟩ ?_
     (try simp only [Act.put, u1, u2, u3])
     exact wpAnyH_listed (l' := #[true, true, true, true, true, true, true, true, true, true, true, false, false]) (by kernel_rfl) (hT nW sva svc soa soc y4 ⟨gy4, by omega, (t4.block _ (by omega)).trans vy3, y3.heap.size, y4.heap.size, hiR, hoR, hcR1, hcR2, by omega, by omega, by omega, .inl (by omega)⟩)
   case h2 =>
    intro nN sva svc soa soc wT ⟨gz, hge, hN, lo, hh, hiR, hoR, hcR1, hcR2, b1, b2, b3, b4⟩
    obtain ⟨c0, c1⟩ := pair_cells hN
    obtain ⟨x0, x1⟩ := pair_frozen hN
    have gW : Below wd.heap.size wd ((wT.setCell ⟨nN, 0, none⟩ (.slice sva r.2.1.length svc)).setCell ⟨nN, 1, none⟩ (.slice soa r.2.2.length soc)) := (gz.setCell (p := ⟨nN, 0, none⟩) hge _).setCell (p := ⟨nN, 1, none⟩) hge _
    have hSW := hSk _ gW
    refine rk 11 rfl (fun K hK => ?_)
    go_simp
    refine hK.out _ _ hSW (fun hHeld9 => ?_)
    clear hK K
    (try simp only [Act.put, u1, u2, u3])
    refine tk 12 ⟨some 12, .assign (.tmp 46), 2, "l06_commands.go:180", #[⟨9, .data⟩, ⟨11, .chain⟩, ⟨0, .phase⟩, ⟨1, .phase⟩, ⟨2, .phase⟩, ⟨3, .phase⟩, ⟨4, .phase⟩, ⟨5, .phase⟩, ⟨6, .phase⟩, ⟨7, .phase⟩, ⟨8, .phase⟩, ⟨9, .phase⟩, ⟨10, .phase⟩, ⟨11, .phase⟩], none⟩ ?_
    (try simp only [Act.put, u1, u2, u3])
    refine wpAnyH_done (by kernel_rfl) ?_ _
    have hiS : Own ((wT.setCell ⟨nN, 0, none⟩ (.slice sva r.2.1.length svc)).setCell ⟨nN, 1, none⟩ (.slice soa r.2.2.length soc)) lo hh sva r.2.1.length r.2.1 := hiR.kept (fun j a b => pair_other _ _ (by omega))
    have hoS : OwnOps ((wT.setCell ⟨nN, 0, none⟩ (.slice sva r.2.1.length svc)).setCell ⟨nN, 1, none⟩ (.slice soa r.2.2.length soc)) lo hh soa r.2.2.length r.2.2 := hoR.kept (fun j a b => pair_other _ _ (by omega))
    have hNS : ((wT.setCell ⟨nN, 0, none⟩ (.slice sva r.2.1.length svc)).setCell ⟨nN, 1, none⟩ (.slice soa r.2.2.length soc)).heap[nN]? = some (.cells #[.slice sva r.2.1.length svc, .slice soa r.2.2.length soc] 32 (0, 0)) := pair_set _ _ hN
    have hszS : wT.heap.size ≤ ((wT.setCell ⟨nN, 0, none⟩ (.slice sva r.2.1.length svc)).setCell ⟨nN, 1, none⟩ (.slice soa r.2.2.length soc)).heap.size := Nat.le_of_eq (pair_size _ _ _ _).symm
    have hgS : Below wr.heap.size wr ((wT.setCell ⟨nN, 0, none⟩ (.slice sva r.2.1.length svc)).setCell ⟨nN, 1, none⟩ (.slice soa r.2.2.length soc)) := hbd.trans (gW.mono hsd)
    clear c0 c1 x0 x1 hSW hN hiR hoR hHeld hSk gz gW
    generalize ((wT.setCell ⟨nN, 0, none⟩ (.slice sva r.2.1.length svc)).setCell ⟨nN, 1, none⟩ (.slice soa r.2.2.length soc)) = wS at hiS hoS hNS hszS hgS ⊢
    apply hKR
    clear hKR KR
    have HBS : Hid (Below w0.heap.size w0 wS) := HB.out.trans (hgS.mono HB.out.size)
    have hwr0 := HB.out.size
    have hswS := hgS.size
    by_cases h1c : r.1 = 1
    ·
     have hcd : (r.1 != 1) = false := by rw [h1c]; rfl
     have H1c := Lib.hid h1c
     clear h1c
     have HIa := Lib.hid (HIx.out.below hgS)
     have HBT := HBS
     go_upto_region 11 with fail
     have hbq : Below wS.heap.size wS (wS.alloc (.cells #[.int .i64 r.1] 2)) := bl
     have hswt := HBT.out.size
     have Hrow := Lib.hid (HIa.out.row.alloc (.cells #[.int .i64 r.1] 2))
     go_wp2_with (at_builtin; refine wpList_append_lies _ (by rfl) _ _ 22 (by rfl) w0.heap.size 2 i0 (.int .i64 0) 1 8 Tryz.underlying22 hi hz0 hz1 hz2 (by rfl) (by decide) _ k (List.map (Value.int .i64) (iaC xs l dev cs k)) (by rfl) ?ap0 ⟨wS.heap.size, 0, none⟩ 1 1 [.int .i64 r.1] (by rfl) (by rfl) (World.news_of_block (cs := #[.int .i64 r.1]) (t := 2) (fr := (0, 0)) (heap_alloc_new wS _)) (by simp [Value.oneCell']) (by omega) ?ap1 ?ap2 ?ap3 (wS.heap.size + 1) (by simp) ?_)
     case ap0 => exact Hrow.out
     case ap1 => unfold maxLen; omega
     case ap2 => omega
     case ap3 => have := hbq.size; omega
     intro g cap wq hown hgrow hat hlt'
     have hown2 : wq.ownsRow w0.heap.size 2 1 (.slice (some ⟨g, 0, none⟩) (k + 1) cap) (k + 1) ((iaC xs l dev cs (k + 1)).map (Value.int .i64)) := by rw [HC1.out]; simpa using hown
     have HIn : Hid (IaI false w0.heap.size nb (iaN xs l dev cs (k + 1)).1 (iaN xs l dev cs (k + 1)).2 (.slice (some ⟨g, 0, none⟩) (k + 1) cap) (k + 1) (iaC xs l dev cs (k + 1)) wq) := by
      rw [HN1.out, if_pos H1c.out, HZm.out]
      exact HIa.out.app hbq hgrow hown2 (by simpa using hat)
     have HBn := Lib.hid ((HBT.out.trans (hbq.mono hswt)).grown hgrow (by have := hbq.size; omega) (fun j hj => (Hrow.out.lt j hj).1))
     clear hown hown2 hgrow hat hlt' Hrow hbq
     go_wp2
     go_roundw
     case rel => exact ⟨k + 1, by omega, by go_num, HIn, HBn⟩
     case measure => simp [intOf]; omega
    ·
     have hcd : (r.1 != 1) = true := by simp [h1c]
     have HIa := Lib.hid (HIx.out.set hgS hiS hoS hcR1 hcR2 (by omega) b2 (by omega) b2 (by omega) (by omega) (fun h => Bool.noConfusion h))
     obtain ⟨e0, e1⟩ := pair_cells hNS
     have hnS : wS.heap[nb]? = some (.cells #[.slice va zs.length vc, .slice oa m.length oc] 32 (0, 0)) := (hgS.block _ hnlt).trans Hn.out
     obtain ⟨c0, c1⟩ := pair_cells hnS
     obtain ⟨x0, x1⟩ := pair_frozen hnS
     have HBT : Hid (Below w0.heap.size w0 ((wS.setCell ⟨nb, 0, none⟩ (.slice sva r.2.1.length svc)).setCell ⟨nb, 1, none⟩ (.slice soa r.2.2.length soc))) := (HBS.out.setCell (p := ⟨nb, 0, none⟩) hnb0 _).setCell (p := ⟨nb, 1, none⟩) hnb0 _
     go_upto_region 11 with fail
     generalize ((wS.setCell ⟨nb, 0, none⟩ (.slice sva r.2.1.length svc)).setCell ⟨nb, 1, none⟩ (.slice soa r.2.2.length soc)) = wX at HIa HBT ⊢
     clear e0 e1 c0 c1 x0 x1 hnS
     have hbq : Below wX.heap.size wX (wX.alloc (.cells #[.int .i64 r.1] 2)) := bl
     have hswt := HBT.out.size
     have Hrow := Lib.hid (HIa.out.row.alloc (.cells #[.int .i64 r.1] 2))
     go_wp2_with (at_builtin; refine wpList_append_lies _ (by rfl) _ _ 22 (by rfl) w0.heap.size 2 i0 (.int .i64 0) 1 8 Tryz.underlying22 hi hz0 hz1 hz2 (by rfl) (by decide) _ k (List.map (Value.int .i64) (iaC xs l dev cs k)) (by rfl) ?ap0 ⟨wX.heap.size, 0, none⟩ 1 1 [.int .i64 r.1] (by rfl) (by rfl) (World.news_of_block (cs := #[.int .i64 r.1]) (t := 2) (fr := (0, 0)) (heap_alloc_new wX _)) (by simp [Value.oneCell']) (by omega) ?ap1 ?ap2 ?ap3 (wX.heap.size + 1) (by simp) ?_)
     case ap0 => exact Hrow.out
     case ap1 => unfold maxLen; omega
     case ap2 => omega
     case ap3 => have := hbq.size; omega
     intro g cap wq hown hgrow hat hlt'
     have hown2 : wq.ownsRow w0.heap.size 2 1 (.slice (some ⟨g, 0, none⟩) (k + 1) cap) (k + 1) ((iaC xs l dev cs (k + 1)).map (Value.int .i64)) := by rw [HC1.out]; simpa using hown
     have HIn : Hid (IaI false w0.heap.size nb (iaN xs l dev cs (k + 1)).1 (iaN xs l dev cs (k + 1)).2 (.slice (some ⟨g, 0, none⟩) (k + 1) cap) (k + 1) (iaC xs l dev cs (k + 1)) wq) := by
      rw [HN1.out, if_neg h1c]
      exact HIa.out.app hbq hgrow hown2 (by simpa using hat)
     have HBn := Lib.hid ((HBT.out.trans (hbq.mono hswt)).grown hgrow (by have := hbq.size; omega) (fun j hj => (Hrow.out.lt j hj).1))
     clear hown hown2 hgrow hat hlt' Hrow hbq
     go_wp2
     go_roundw
     case rel => exact ⟨k + 1, by omega, by go_num, HIn, HBn⟩
     case measure => simp [intOf]; omega
  ·obtain rfl : k = nk := by omega
   have HIe := HI.out
   obtain ⟨zs, hzs⟩ : ∃ z, (iaN xs l dev cs k).1 = z := ⟨_, rfl⟩
   obtain ⟨m, hms⟩ : ∃ z, (iaN xs l dev cs k).2 = z := ⟨_, rfl⟩
   obtain ⟨qs, hqs⟩ : ∃ z, iaC xs l dev cs k = z := ⟨_, rfl⟩
   have hzm : iaN xs l dev cs k = (zs, m) := by rw [← hzs, ← hms]
   rw [hzs, hms, hqs] at HIe
   have HZe := Lib.hid hzm
   have HQe := Lib.hid hqs
   clear hzs hms hqs hzm HI
   obtain ⟨va, vc, oa, oc, l1, h1, l2, h2, hn, hi', ho', c1, c2, ⟨a1, a2, a3, a4, a5, a6, a7⟩, hrow, hdis⟩ := HIe
   have hwr0 := HB.out.size
   obtain ⟨ka', kc, k1, k2, hkv, hko, k3, k4, k5, k6, k7⟩ := IaI.codes (l1 := w0.heap.size) (h1 := w0.heap.size) hrow (fun b e => .inr (hrow.lt b e).1) (Nat.le_refl _) hwr0
   subst hkv
   have hR := (HB.out.block _ (Array.getElem?_eq_some_iff.1 HT.out.snd).1).trans HT.out.snd
   obtain ⟨c0, c1'⟩ := pair_cells hn
   obtain ⟨r0, r1⟩ := pair_cells hR
   obtain ⟨f0, f1⟩ := pair_frozen hR
   have HX6 := Lib.hid (pair_set (.slice va zs.length vc) (.slice oa m.length oc) hR)
   have hbf : Below w.heap.size w ((wr.setCell ⟨w.heap.size + 1, 0, none⟩ (.slice va zs.length vc)).setCell ⟨w.heap.size + 1, 1, none⟩ (.slice oa m.length oc)) := ((HT.out.bel.trans (HB.out.mono (by omega))).setCell (p := ⟨w.heap.size + 1, 0, none⟩) (by simp) _).setCell (p := ⟨w.heap.size + 1, 1, none⟩) (by simp) _
   have HI6 : Hid (IaSP (iaR xs l dev cs) w (.returned (.tuple #[.agg #[.slice va zs.length vc, .slice oa m.length oc], .slice ka' qs.length kc])) ((wr.setCell ⟨w.heap.size + 1, 0, none⟩ (.slice va zs.length vc)).setCell ⟨w.heap.size + 1, 1, none⟩ (.slice oa m.length oc))) := by
    rw [HGood.out, HZe.out, HQe.out]
    exact ⟨va, vc, oa, oc, ka', kc, rfl, (hi'.kept (fun j x y => pair_other _ _ (by omega))).ints.more (by rw [pair_size]; omega), (ho'.kept (fun j x y => pair_other _ _ (by omega))).ops.more (by rw [pair_size]; omega), (hko.kept (fun j x y => pair_other _ _ (by omega))).ints.more (by rw [pair_size]; omega), hbf⟩
   clear hi' ho' hko hrow hdis hbf hn
   go_wp2
   generalize (wr.setCell ⟨w.heap.size + 1, 0, none⟩ (.slice va zs.length vc)).setCell ⟨w.heap.size + 1, 1, none⟩ (.slice oa m.length oc) = wf at HX6 HI6 ⊢
   obtain ⟨p0, p1⟩ := pair_cells HX6.out
   exact bodyPost_ret (v := .tuple #[.agg #[.slice va zs.length vc, .slice oa m.length oc], .slice ka' qs.length kc]) (by simp [results, Tryz.results16, go_sem, p0, p1]) rfl HI6.out
set_option linter.unusedVariables false
set_option linter.unusedSimpArgs false

/-- What the program's walk answers: rows of the call's own, each by itself. -/
def IaIP (r : (List Int × List OpV) × List Int) (w : World) (e : Ending) (w' : World) : Prop :=
 ∃ va vc oa oc ka kc lo mid hi c1 c2, e = .returned (.tuple #[.agg #[.slice va r.1.1.length vc, .slice oa r.1.2.length oc], .slice ka r.2.length kc]) ∧ Own w' lo mid va r.1.1.length r.1.1 ∧ OwnOps w' mid hi oa r.1.2.length r.1.2 ∧ Own w' c1 c2 ka r.2.length r.2 ∧ (w.heap.size ≤ lo ∧ lo ≤ mid ∧ mid ≤ hi ∧ hi ≤ w'.heap.size ∧ w.heap.size ≤ c1 ∧ c1 ≤ c2 ∧ c2 ≤ w'.heap.size ∧ (c2 ≤ lo ∨ hi ≤ c1)) ∧ Below w.heap.size w w'
theorem IaIP.nil {w w' : World} (h : Below w.heap.size w w') : IaIP (([], []), []) w (.returned (.tuple #[.agg #[.slice none 0 0, .slice none 0 0], .slice none 0 0])) w' := by
 have := h.size
 exact ⟨none, 0, none, 0, none, 0, w.heap.size, w.heap.size, w.heap.size, w.heap.size, w.heap.size, rfl, ⟨rfl, fun h => absurd h (by simp)⟩, ⟨rfl, fun h => absurd h (by simp)⟩, ⟨rfl, fun h => absurd h (by simp)⟩, ⟨by omega, by omega, by omega, by omega, by omega, by omega, by omega, .inl (by omega)⟩, h⟩
set_option maxHeartbeats 40000000 in
theorem implIssueAll (w : World) (B : Nat) (E : Int → Addr) (hE : Errs w B E) (av ao ka : Option Addr) (nv cv no co nk ck : Nat) (xs : List Int) (l : List OpV) (cs : List CmV) (dev : Int) (hx : Ints w B av nv xs) (h : Ops w B ao no l) (hk : Cms w B ka nk cs) (hB : B ≤ w.heap.size) (hcv : Caps av nv cv) (hco : Caps ao no co) (hm : ∀ i, i < no → (atOp l i).item.size ≤ 1048576) (hkm : ∀ i, i < nk → (cs.getD i CmV.zero).item.size ≤ 1048576) (hv : nv ≤ 1048576) (hn : no ≤ 1048576) (hnk : nk ≤ 1048576) :
  Calls Tryz.prog 18 #[.agg #[.slice av nv cv, .slice ao no co], .int .i64 dev, .slice ka nk ck] w (IaIP (iaR xs l dev cs) w) := by
 obtain ⟨i0, hi, hz0, hz1, hz2⟩ := info_parts Tryz.infoI64
 have hT := Two.mk0 w #[.slice av nv cv, .slice ao no co] #[.slice none 0 0, .slice none 0 0] 32
 have HV := Lib.hid (hx.below hT.bel hB)
 have HO := Lib.hid (h.below hT.bel hB)
 have HK := Lib.hid (hk.below hT.bel hB)
 have HE := Lib.hid (hE.below hT.bel hB)
 have HT := Lib.hid hT
 have HM := Lib.hid hm
 have HKm := Lib.hid hkm
 have HCv := Lib.hid hcv
 have HCo := Lib.hid hco
 have HLk : Hid (cs.length = nk) := hk.1
 clear hx h hk hT hm hkm hcv hco hE
 go_enter Tryz.func18, Tryz.ntmps18
 go_upto_region 1 with fail
 generalize (w.alloc (.cells #[.slice av nv cv, .slice ao no co] 32)).alloc (.cells #[.slice none 0 0, .slice none 0 0] 32) = w0 at HV HO HK HE HT ⊢
 have hs0 : w.heap.size + 1 < w0.heap.size := (Array.getElem?_eq_some_iff.1 HT.out.snd).1
 obtain ⟨w1, hw1⟩ : ∃ z, z = w0 := ⟨_, rfl⟩
 have HB1 : Hid (Below w0.heap.size w0 w1) := by rw [hw1]; exact Below.refl _ _
 have hsA : w0.heap.size ≤ w1.heap.size := HB1.out.size
 obtain ⟨q0, q1⟩ := pair_cells ((HB1.out.block _ (Array.getElem?_eq_some_iff.1 HT.out.fst).1).trans HT.out.fst)
 rw [← hw1]
 clear hw1

 have HV1 := Lib.hid (HV.out.below HB1.out (Nat.le_trans hB (by omega)))
 have HO1 := Lib.hid (HO.out.below HB1.out (Nat.le_trans hB (by omega)))
 have HK1 := Lib.hid (HK.out.below HB1.out (Nat.le_trans hB (by omega)))
 have HE1 := Lib.hid (HE.out.below HB1.out (Nat.le_trans hB (by omega)))
 go_wp2_with fail
 refine (implCartOk w1 B av ao nv cv no co xs l HV1.out HO1.out (Nat.le_trans hB (by omega)) hv HCo.out.1 ⟨hn, HCo.out.2.1⟩).mono ?_
 obtain ⟨cb, hcb⟩ : ∃ b, cartB xs l = b := ⟨_, rfl⟩
 have HCb := Lib.hid hcb
 rw [hcb]
 clear hcb
 rintro e w2 ⟨rfl, hb⟩
 have hs2 := hb.size
 have HB2 := Lib.hid (HB1.out.trans (hb.mono (by omega)))
 have HV2 := Lib.hid (HV1.out.below hb (Nat.le_trans hB (by omega)))
 have HO2 := Lib.hid (HO1.out.below hb (Nat.le_trans hB (by omega)))
 have HK2 := Lib.hid (HK1.out.below hb (Nat.le_trans hB (by omega)))
 have HE2 := Lib.hid (HE1.out.below hb (Nat.le_trans hB (by omega)))
 clear hb q0 q1 HB1 HV1 HO1 HK1 HE1
 cases cb
 ·clear hi hz0 hz1 hz2
  have hbad : iaR xs l dev cs = (([], []), []) := if_neg (by rintro ⟨a1, a2, a3⟩; exact Bool.false_ne_true (HCb.out.symm.trans a1))
  have HBad := Lib.hid hbad
  clear hbad
  have HTx := Lib.hid (Two.mk (w := w) (w1 := w2) ((HB2.out.block _ (Array.getElem?_eq_some_iff.1 HT.out.fst).1).trans HT.out.fst) ((HB2.out.block _ (Array.getElem?_eq_some_iff.1 HT.out.snd).1).trans HT.out.snd) (HT.out.bel.trans (HB2.out.mono (by omega))))
  obtain ⟨r0, r1⟩ := pair_cells HTx.out.snd
  obtain ⟨f0, f1⟩ := pair_frozen HTx.out.snd
  have HX6 := Lib.hid (pair_set (.slice none 0 0) (.slice none 0 0) HTx.out.snd)
  have HI6 : Hid (Below w.heap.size w ((w2.setCell ⟨w.heap.size + 1, 0, none⟩ (.slice none 0 0)).setCell ⟨w.heap.size + 1, 1, none⟩ (.slice none 0 0))) := (HTx.out.bel.setCell (p := ⟨w.heap.size + 1, 0, none⟩) (Nat.le_succ _) _).setCell (p := ⟨w.heap.size + 1, 1, none⟩) (Nat.le_succ _) _
  go_wp2
  generalize (w2.setCell ⟨w.heap.size + 1, 0, none⟩ (.slice none 0 0)).setCell ⟨w.heap.size + 1, 1, none⟩ (.slice none 0 0) = wf at HX6 HI6 ⊢
  obtain ⟨p0, p1⟩ := pair_cells HX6.out
  exact bodyPost_ret (v := .tuple #[.agg #[.slice none 0 0, .slice none 0 0], .slice none 0 0]) (by simp [results, Tryz.results18, go_sem, p0, p1]) rfl (by rw [HBad.out]; exact IaIP.nil HI6.out)
 go_wp2_with fail
 refine (deviceOkN dev w2).mono ?_
 rintro e w2' ⟨rfl, rfl⟩
 obtain ⟨db, hdb⟩ : ∃ b, inB dev 0 3 = b := ⟨_, rfl⟩
 have HDb := Lib.hid hdb
 rw [hdb]
 clear hdb
 cases db
 ·clear hi hz0 hz1 hz2
  have hbad : iaR xs l dev cs = (([], []), []) := if_neg (by rintro ⟨a1, a2, a3⟩; exact Bool.false_ne_true (HDb.out.symm.trans a2))
  have HBad := Lib.hid hbad
  clear hbad
  have HTx := Lib.hid (Two.mk (w := w) (w1 := w2) ((HB2.out.block _ (Array.getElem?_eq_some_iff.1 HT.out.fst).1).trans HT.out.fst) ((HB2.out.block _ (Array.getElem?_eq_some_iff.1 HT.out.snd).1).trans HT.out.snd) (HT.out.bel.trans (HB2.out.mono (by omega))))
  obtain ⟨r0, r1⟩ := pair_cells HTx.out.snd
  obtain ⟨f0, f1⟩ := pair_frozen HTx.out.snd
  have HX6 := Lib.hid (pair_set (.slice none 0 0) (.slice none 0 0) HTx.out.snd)
  have HI6 : Hid (Below w.heap.size w ((w2.setCell ⟨w.heap.size + 1, 0, none⟩ (.slice none 0 0)).setCell ⟨w.heap.size + 1, 1, none⟩ (.slice none 0 0))) := (HTx.out.bel.setCell (p := ⟨w.heap.size + 1, 0, none⟩) (Nat.le_succ _) _).setCell (p := ⟨w.heap.size + 1, 1, none⟩) (Nat.le_succ _) _
  go_wp2
  generalize (w2.setCell ⟨w.heap.size + 1, 0, none⟩ (.slice none 0 0)).setCell ⟨w.heap.size + 1, 1, none⟩ (.slice none 0 0) = wf at HX6 HI6 ⊢
  obtain ⟨p0, p1⟩ := pair_cells HX6.out
  exact bodyPost_ret (v := .tuple #[.agg #[.slice none 0 0, .slice none 0 0], .slice none 0 0]) (by simp [results, Tryz.results18, go_sem, p0, p1]) rfl (by rw [HBad.out]; exact IaIP.nil HI6.out)
 by_cases hbig : nk ≤ 200
 rotate_left
 ·clear hi hz0 hz1 hz2
  have hdc : decide ((200 : Int) < (nk : Int)) = true := decide_eq_true (by omega)
  have hdd : (200 : Int) < (nk : Int) := by omega
  have hbad : iaR xs l dev cs = (([], []), []) := if_neg (by rintro ⟨a1, a2, a3⟩; rw [HLk.out] at a3; omega)
  have HBad := Lib.hid hbad
  clear hbad
  have HTx := Lib.hid (Two.mk (w := w) (w1 := w2) ((HB2.out.block _ (Array.getElem?_eq_some_iff.1 HT.out.fst).1).trans HT.out.fst) ((HB2.out.block _ (Array.getElem?_eq_some_iff.1 HT.out.snd).1).trans HT.out.snd) (HT.out.bel.trans (HB2.out.mono (by omega))))
  obtain ⟨r0, r1⟩ := pair_cells HTx.out.snd
  obtain ⟨f0, f1⟩ := pair_frozen HTx.out.snd
  have HX6 := Lib.hid (pair_set (.slice none 0 0) (.slice none 0 0) HTx.out.snd)
  have HI6 : Hid (Below w.heap.size w ((w2.setCell ⟨w.heap.size + 1, 0, none⟩ (.slice none 0 0)).setCell ⟨w.heap.size + 1, 1, none⟩ (.slice none 0 0))) := (HTx.out.bel.setCell (p := ⟨w.heap.size + 1, 0, none⟩) (Nat.le_succ _) _).setCell (p := ⟨w.heap.size + 1, 1, none⟩) (Nat.le_succ _) _
  go_wp2
  generalize (w2.setCell ⟨w.heap.size + 1, 0, none⟩ (.slice none 0 0)).setCell ⟨w.heap.size + 1, 1, none⟩ (.slice none 0 0) = wf at HX6 HI6 ⊢
  obtain ⟨p0, p1⟩ := pair_cells HX6.out
  exact bodyPost_ret (v := .tuple #[.agg #[.slice none 0 0, .slice none 0 0], .slice none 0 0]) (by simp [results, Tryz.results18, go_sem, p0, p1]) rfl (by rw [HBad.out]; exact IaIP.nil HI6.out)
 have hdc : decide ((200 : Int) < (nk : Int)) = false := decide_eq_false (by omega)
 have hgood : iaR xs l dev cs = (iaN xs l dev cs nk, iaC xs l dev cs nk) := by
  unfold iaR
  rw [if_pos ⟨HCb.out, HDb.out, by rw [HLk.out]; exact hbig⟩, HLk.out]
 have HGood := Lib.hid hgood
 clear hgood
 obtain ⟨q0, q1⟩ := pair_cells ((HB2.out.block _ (Array.getElem?_eq_some_iff.1 HT.out.fst).1).trans HT.out.fst)
 go_wp2_with fail
 have hnv4 : xs.length = 4 := (cart_vecs HCb.out).1
 obtain ⟨gv, ov, eav, _⟩ := HV2.out.2 0 (by rw [← HV2.out.1, hnv4]; omega)
 have hnv0 : 0 < nv := by rw [← HV2.out.1, hnv4]; omega
 subst eav
 refine (copiedCartR w2 B gv ov ao nv cv no co xs l HV2.out HO2.out (Nat.le_trans hB (by omega)) hnv0 hv hn HCo.out.2.2 HM.out).mono ?_
 clear hnv4 hnv0
 rintro e w3 ⟨ra, rc, sa, sc, md, rfl, ho1, hrow, hmd1, hmd2, hb, hq1⟩
 have ho2 := own_of_cells (hi := w3.heap.size) hrow (Nat.le_refl _)
 have hq2 := caps_of_row hrow
 clear hrow
 have hs3 := hb.size
 have HB3 := Lib.hid (HB2.out.trans (hb.mono (by omega)))
 have HK3 := Lib.hid (HK2.out.below hb (Nat.le_trans hB (by omega)))
 have HE3 := Lib.hid (HE2.out.below hb (Nat.le_trans hB (by omega)))
 clear hb q0 q1
 have hbB : Below w3.heap.size w3 (w3.alloc (.cells #[.slice ra xs.length rc, .slice sa l.length sc] 32)) := bl
 have hN4 := heap_alloc_new w3 (.cells #[.slice ra xs.length rc, .slice sa l.length sc] 32)
 go_upto_region 4 with fail
 generalize w3.alloc (.cells #[.slice ra xs.length rc, .slice sa l.length sc] 32) = w4 at hbB hN4 ⊢
 have hs4 := hbB.size
 have hl4 := (Array.getElem?_eq_some_iff.1 hN4).1
 have HB4 := Lib.hid (HB3.out.trans (hbB.mono (by omega)))
 generalize hnb : w3.heap.size = nb at hN4 hl4 ⊢
 have HK4 := Lib.hid (HK3.out.below hbB (Nat.le_trans hB (by omega)))
 have HE4 := Lib.hid (HE3.out.below hbB (Nat.le_trans hB (by omega)))
 have hi1 := ho1.below hbB hmd2
 have hi2 := ho2.below hbB (Nat.le_refl _)
 clear hbB ho1 ho2 HB2 HB3 HV2 HO2 HK2 HK3 HE2 HE3
 obtain ⟨M, hM⟩ : ∃ M, M = madeCells (Value.int .i64 0).cells (((nk : Nat) : Int).toNat * i0.size) := ⟨_, rfl⟩
 have hMs : M.size = nk * 1 := by rw [hM, size_madeCells, hz1]; simp [Value.cells]
 have hmk : ∀ W : World, (Instr.makeSlice 22 (.int .i64 0) (.int .i64 (nk : Int))).run Tryz.prog W = .ok (.slice (some ⟨W.heap.size, 0, none⟩) 0 nk) (W.alloc (.cells M 2)) := fun W => by
  have h := run_make (P := Tryz.prog) W 22 2 i0 (.int .i64 0) Tryz.underlying22 hi hz0 .i64 .i64 (0 : Int) (nk : Int) (by omega) (by omega) (by rw [hz2]; omega) (by omega)
  rw [← hM] at h
  simpa using h
 have HR5 : Hid ((w4.alloc (.cells M 2)).ownsRow w0.heap.size 2 1 (.slice (some ⟨w4.heap.size, 0, none⟩) 0 nk) 0 ([].map (Value.int .i64))) := World.ownsRow_made w4 M nk (by omega) (by unfold maxLen; omega) hMs
 have hbC : Below w4.heap.size w4 (w4.alloc (.cells M 2)) := bl
 have HMx := Lib.hid hM
 clear hM hMs
 go_upto_region 5 with fail
 clear hmk
 generalize w4.alloc (.cells M 2) = w5 at HR5 hbC ⊢
 have hs5 := hbC.size
 have HI5 : Hid (IaI true w0.heap.size nb xs l (.slice (some ⟨w4.heap.size, 0, none⟩) 0 nk) 0 [] w5) := ⟨ra, rc, sa, sc, w2.heap.size, md, md, w3.heap.size, (hbC.block _ (Array.getElem?_eq_some_iff.1 hN4).1).trans hN4, hi1.below hbC (by omega), hi2.below hbC (by omega), hq1, hq2, ⟨by omega, by omega, by omega, by omega, by omega, by omega, fun _ => rfl⟩, HR5.out, fun b e => by
  have e' : w4.heap.size = b := by injection e
  exact ⟨by omega, .inr (by omega), .inr (by omega)⟩⟩
 have HB5 := Lib.hid (HB4.out.trans (hbC.mono (by omega)))
 have HK5 := Lib.hid (HK4.out.below hbC (Nat.le_trans hB (by omega)))
 have HE5 := Lib.hid (HE4.out.below hbC (Nat.le_trans hB (by omega)))
 clear hbC hN4 hi1 hi2 hq1 hq2 HR5 HB4 HK4 HE4
 generalize w4.heap.size = n4 at HI5 ⊢
 go_wp2
 have HTs := Lib.hid (HT.out.snd)
 have hnb0 : w0.heap.size ≤ nb := by omega
 go_loopw [9, 35] (fun cv i wr => ∃ k : Nat, k ≤ nk ∧ i = .int .i64 (k : Int) ∧ Hid (IaI true w0.heap.size nb (iaN xs l dev cs k).1 (iaN xs l dev cs k).2 cv k (iaC xs l dev cs k) wr) ∧ Hid (Below w0.heap.size w0 wr)) (fun _ i _ => nk - (intOf i).toNat)
 case atStart => exact ⟨0, Nat.zero_le _, rfl, HI5, HB5⟩
 case round =>
  obtain ⟨k, hk, rfl, HI, HB⟩ := hrel
  by_cases hlt : k < nk
  ·have hki : (k : Int) < (nk : Int) := by omega
   have hk0 : (0 : Int) ≤ (k : Int) := by omega
   have hcz := iaN_cart HCb.out dev cs k
   obtain ⟨zs, hzs⟩ : ∃ z, (iaN xs l dev cs k).1 = z := ⟨_, rfl⟩
   obtain ⟨m, hms⟩ : ∃ z, (iaN xs l dev cs k).2 = z := ⟨_, rfl⟩
   obtain ⟨x, hxk⟩ : ∃ x, cs.getD k CmV.zero = x := ⟨_, rfl⟩
   obtain ⟨r, hr⟩ : ∃ r, issueN zs m dev x.kind x.item x.qty x.dev x.seq = r := ⟨_, rfl⟩
   have hN1 : iaN xs l dev cs (k + 1) = if r.1 = 1 then iaN xs l dev cs k else r.2 := by
    show (if _ then _ else _) = _
    rw [hzs, hms, hxk, hr]
   have hC1 : iaC xs l dev cs (k + 1) = iaC xs l dev cs k ++ [r.1] := by
    show iaC xs l dev cs k ++ [_] = _
    rw [hzs, hms, hxk, hr]
   have HN1 := Lib.hid hN1
   have HC1 := Lib.hid hC1
   have HRr := Lib.hid hr
   have hix : x.item.size ≤ 1048576 := by rw [← hxk]; exact HKm.out k hlt
   have hzm : iaN xs l dev cs k = (zs, m) := by rw [← hzs, ← hms]
   have HZm := Lib.hid hzm
   have HI1 := HI.out
   rw [hzs, hms] at hcz HI1
   have hrl := issueN_len zs m dev x.kind x.item x.qty x.dev x.seq
   have hz4 := (cart_vecs hcz).1
   have hm160 := cart_length hcz
   have him : ∀ i, i < m.length → (atOp m i).item.size ≤ 1048576 := fun i hi => Nat.le_trans (op_bounds (cart_op hcz hi)).2.2.2.2.1 (by omega)
   rw [hr] at hrl
   have HHi := Lib.hid him
   have Hz4 := Lib.hid hz4
   have Hm160 := Lib.hid hm160
   have Hrl := Lib.hid hrl
   clear hN1 hC1 hr hzm hzs hms hcz hrl him hz4 hm160
   have HIx := Lib.hid HI1
   obtain ⟨va, vc, oa, oc, l1, h1, l2, h2, hn, hi', ho', c1, c2, hnums, hrow, hdis⟩ := HI1
   obtain ⟨b, off, rfl, hb, ho⟩ := HK5.out.2 k hlt
   clear ho
   have hcm : CmAt wr b (off + k * 5) x := by
    obtain ⟨_, _, e3, hb3, ho3⟩ := (HK.out.below HB.out (Nat.le_trans hB (by omega))).2 k hlt
    injection e3 with e3
    injection e3 with e4 e5 _
    subst e4 e5
    rw [← hxk]
    exact ho3
   have hbw : b < wr.heap.size := by have := HB.out.size; omega
   have HXk := Lib.hid hxk
   clear hxk
   have HCm := Lib.hid hcm
   clear hcm
   have hnlt : nb < wr.heap.size := (Array.getElem?_eq_some_iff.1 hn).1
   have Hn := Lib.hid hn
   have Hi := Lib.hid hi'
   have Ho := Lib.hid ho'
   have Hc1 := Lib.hid c1
   have Hc2 := Lib.hid c2
   have Hnum := Lib.hid hnums
   clear hn hi' ho' c1 c2 hnums hrow hdis
   obtain ⟨d0, d1, d2, d3, d4⟩ := HCm.out
   go_upto_region 8 with fail
   clear d0 d1 d2 d3 d4
   have hbe : Below wr.heap.size wr (wr.alloc (.cells #[.int .i64 x.kind, .string x.item, .int .i64 x.qty, .int .i64 x.dev, .int .i64 x.seq] 36)) := bl
   obtain ⟨d0, d1, d2, d3, d4⟩ := cmd_all (heap_alloc_new wr (.cells #[.int .i64 x.kind, .string x.item, .int .i64 x.qty, .int .i64 x.dev, .int .i64 x.seq] 36))
   generalize wr.alloc (.cells #[.int .i64 x.kind, .string x.item, .int .i64 x.qty, .int .i64 x.dev, .int .i64 x.seq] 36) = we at hbe d0 d1 d2 d3 d4 ⊢
   have hse := hbe.size
   obtain ⟨c0, c1⟩ := pair_cells ((hbe.block _ hnlt).trans Hn.out)
   go_wp2_with fail
   have hsp := implIssueA we we.heap.size E (((HE.out.below HB.out (Nat.le_trans hB (by omega))).below hbe (Nat.le_trans hB (by have := HB.out.size; omega))).up (Nat.le_trans hB (by have := HB.out.size; omega))) va oa zs.length vc m.length oc zs m dev x.kind x.qty x.dev x.seq x.item ((Hi.out.ints.below hbe Hnum.out.2.2.2.2.1).more (Nat.le_trans Hnum.out.2.2.2.2.1 hbe.size)) ((Ho.out.ops.below hbe Hnum.out.2.2.2.2.2.1).more (Nat.le_trans Hnum.out.2.2.2.2.2.1 hbe.size)) (Nat.le_refl _) Hc1.out.1 Hc2.out (by have := Hz4.out; omega) (by have := Hm160.out; omega) hix
   rw [HRr.out] at hsp
   refine hsp.mono ?_
   clear hsp
   rintro e wT ⟨sva, svc, soa, soc, gm, rfl, hiR, hoR, hgm1, hgm2, hcR1, hcR2, hbt⟩
   clear c0 c1 d0 d1 d2 d3 d4
   have hbs : Below wT.heap.size wT (wT.alloc (.cells #[.slice sva r.2.1.length svc, .slice soa r.2.2.length soc] 32)) := bl
   have hNS := heap_alloc_new wT (.cells #[.slice sva r.2.1.length svc, .slice soa r.2.2.length soc] 32)
   go_upto_region 9 with fail
   generalize wT.alloc (.cells #[.slice sva r.2.1.length svc, .slice soa r.2.2.length soc] 32) = wS at hbs hNS ⊢
   have hst := hbt.size
   have hss := hbs.size
   have hiS := hiR.below hbs hgm2
   have hoS := hoR.below hbs (Nat.le_refl _)
   have hgS : Below wr.heap.size wr wS := hbe.trans ((hbt.trans (hbs.mono (by omega))).mono (by omega))
   have hgm3 : gm ≤ wT.heap.size := hgm2
   generalize wT.heap.size = nN at hbs hNS hss hgm3 hst hoS ⊢
   clear hiR hoR hbe hbt hbs
   have HBS : Hid (Below w0.heap.size w0 wS) := HB.out.trans (hgS.mono HB.out.size)
   have hwr0 := HB.out.size
   have hswS := hgS.size
   by_cases h1c : r.1 = 1
   ·
    have hcd : (r.1 != 1) = false := by rw [h1c]; rfl
    have H1c := Lib.hid h1c
    clear h1c
    have HIa := Lib.hid (HIx.out.below hgS)
    have HBT := HBS
    go_upto_region 11 with fail
    have hbq : Below wS.heap.size wS (wS.alloc (.cells #[.int .i64 r.1] 2)) := bl
    have hswt := HBT.out.size
    have Hrow := Lib.hid (HIa.out.row.alloc (.cells #[.int .i64 r.1] 2))
    go_wp2_with (at_builtin; refine wpList_append_lies _ (by rfl) _ _ 22 (by rfl) w0.heap.size 2 i0 (.int .i64 0) 1 8 Tryz.underlying22 hi hz0 hz1 hz2 (by rfl) (by decide) _ k (List.map (Value.int .i64) (iaC xs l dev cs k)) (by rfl) ?ap0 ⟨wS.heap.size, 0, none⟩ 1 1 [.int .i64 r.1] (by rfl) (by rfl) (World.news_of_block (cs := #[.int .i64 r.1]) (t := 2) (fr := (0, 0)) (heap_alloc_new wS _)) (by simp [Value.oneCell']) (by omega) ?ap1 ?ap2 ?ap3 (wS.heap.size + 1) (by simp) ?_)
    case ap0 => exact Hrow.out
    case ap1 => unfold maxLen; omega
    case ap2 => omega
    case ap3 => have := hbq.size; omega
    intro g cap wq hown hgrow hat hlt'
    have hown2 : wq.ownsRow w0.heap.size 2 1 (.slice (some ⟨g, 0, none⟩) (k + 1) cap) (k + 1) ((iaC xs l dev cs (k + 1)).map (Value.int .i64)) := by rw [HC1.out]; simpa using hown
    have HIn : Hid (IaI true w0.heap.size nb (iaN xs l dev cs (k + 1)).1 (iaN xs l dev cs (k + 1)).2 (.slice (some ⟨g, 0, none⟩) (k + 1) cap) (k + 1) (iaC xs l dev cs (k + 1)) wq) := by
     rw [HN1.out, if_pos H1c.out, HZm.out]
     exact HIa.out.app hbq hgrow hown2 (by simpa using hat)
    have HBn := Lib.hid ((HBT.out.trans (hbq.mono hswt)).grown hgrow (by have := hbq.size; omega) (fun j hj => (Hrow.out.lt j hj).1))
    clear hown hown2 hgrow hat hlt' Hrow hbq
    go_wp2
    go_roundw
    case rel => exact ⟨k + 1, by omega, by go_num, HIn, HBn⟩
    case measure => simp [intOf]; omega
   ·
    have hcd : (r.1 != 1) = true := by simp [h1c]
    have HIa := Lib.hid (HIx.out.set hgS hiS hoS hcR1 hcR2 (by omega) hgm1 (by omega) hgm3 (by omega) (by omega) (fun _ => rfl))
    obtain ⟨e0, e1⟩ := pair_cells hNS
    have hnS : wS.heap[nb]? = some (.cells #[.slice va zs.length vc, .slice oa m.length oc] 32 (0, 0)) := (hgS.block _ hnlt).trans Hn.out
    obtain ⟨c0, c1⟩ := pair_cells hnS
    obtain ⟨x0, x1⟩ := pair_frozen hnS
    have HBT : Hid (Below w0.heap.size w0 ((wS.setCell ⟨nb, 0, none⟩ (.slice sva r.2.1.length svc)).setCell ⟨nb, 1, none⟩ (.slice soa r.2.2.length soc))) := (HBS.out.setCell (p := ⟨nb, 0, none⟩) hnb0 _).setCell (p := ⟨nb, 1, none⟩) hnb0 _
    go_upto_region 11 with fail
    generalize ((wS.setCell ⟨nb, 0, none⟩ (.slice sva r.2.1.length svc)).setCell ⟨nb, 1, none⟩ (.slice soa r.2.2.length soc)) = wX at HIa HBT ⊢
    clear e0 e1 c0 c1 x0 x1 hnS
    have hbq : Below wX.heap.size wX (wX.alloc (.cells #[.int .i64 r.1] 2)) := bl
    have hswt := HBT.out.size
    have Hrow := Lib.hid (HIa.out.row.alloc (.cells #[.int .i64 r.1] 2))
    go_wp2_with (at_builtin; refine wpList_append_lies _ (by rfl) _ _ 22 (by rfl) w0.heap.size 2 i0 (.int .i64 0) 1 8 Tryz.underlying22 hi hz0 hz1 hz2 (by rfl) (by decide) _ k (List.map (Value.int .i64) (iaC xs l dev cs k)) (by rfl) ?ap0 ⟨wX.heap.size, 0, none⟩ 1 1 [.int .i64 r.1] (by rfl) (by rfl) (World.news_of_block (cs := #[.int .i64 r.1]) (t := 2) (fr := (0, 0)) (heap_alloc_new wX _)) (by simp [Value.oneCell']) (by omega) ?ap1 ?ap2 ?ap3 (wX.heap.size + 1) (by simp) ?_)
    case ap0 => exact Hrow.out
    case ap1 => unfold maxLen; omega
    case ap2 => omega
    case ap3 => have := hbq.size; omega
    intro g cap wq hown hgrow hat hlt'
    have hown2 : wq.ownsRow w0.heap.size 2 1 (.slice (some ⟨g, 0, none⟩) (k + 1) cap) (k + 1) ((iaC xs l dev cs (k + 1)).map (Value.int .i64)) := by rw [HC1.out]; simpa using hown
    have HIn : Hid (IaI true w0.heap.size nb (iaN xs l dev cs (k + 1)).1 (iaN xs l dev cs (k + 1)).2 (.slice (some ⟨g, 0, none⟩) (k + 1) cap) (k + 1) (iaC xs l dev cs (k + 1)) wq) := by
     rw [HN1.out, if_neg h1c]
     exact HIa.out.app hbq hgrow hown2 (by simpa using hat)
    have HBn := Lib.hid ((HBT.out.trans (hbq.mono hswt)).grown hgrow (by have := hbq.size; omega) (fun j hj => (Hrow.out.lt j hj).1))
    clear hown hown2 hgrow hat hlt' Hrow hbq
    go_wp2
    go_roundw
    case rel => exact ⟨k + 1, by omega, by go_num, HIn, HBn⟩
    case measure => simp [intOf]; omega
  ·obtain rfl : k = nk := by omega
   have HIe := HI.out
   obtain ⟨zs, hzs⟩ : ∃ z, (iaN xs l dev cs k).1 = z := ⟨_, rfl⟩
   obtain ⟨m, hms⟩ : ∃ z, (iaN xs l dev cs k).2 = z := ⟨_, rfl⟩
   obtain ⟨qs, hqs⟩ : ∃ z, iaC xs l dev cs k = z := ⟨_, rfl⟩
   have hzm : iaN xs l dev cs k = (zs, m) := by rw [← hzs, ← hms]
   rw [hzs, hms, hqs] at HIe
   have HZe := Lib.hid hzm
   have HQe := Lib.hid hqs
   clear hzs hms hqs hzm HI
   obtain ⟨va, vc, oa, oc, l1, h1, l2, h2, hn, hi', ho', c1, c2, ⟨a1, a2, a3, a4, a5, a6, a7⟩, hrow, hdis⟩ := HIe
   have hwr0 := HB.out.size
   obtain ⟨ka', kc, k1, k2, hkv, hko, k3, k4, k5, k6, k7⟩ := IaI.codes (l1 := l1) (h1 := h2) hrow (fun b e => by have := hdis b e; have := a7 rfl; omega) a1 hwr0
   subst hkv
   have hR := (HB.out.block _ (Array.getElem?_eq_some_iff.1 HT.out.snd).1).trans HT.out.snd
   obtain ⟨c0, c1'⟩ := pair_cells hn
   obtain ⟨r0, r1⟩ := pair_cells hR
   obtain ⟨f0, f1⟩ := pair_frozen hR
   have HX6 := Lib.hid (pair_set (.slice va zs.length vc) (.slice oa m.length oc) hR)
   have hbf : Below w.heap.size w ((wr.setCell ⟨w.heap.size + 1, 0, none⟩ (.slice va zs.length vc)).setCell ⟨w.heap.size + 1, 1, none⟩ (.slice oa m.length oc)) := ((HT.out.bel.trans (HB.out.mono (by omega))).setCell (p := ⟨w.heap.size + 1, 0, none⟩) (by simp) _).setCell (p := ⟨w.heap.size + 1, 1, none⟩) (by simp) _
   have HI6 : Hid (IaIP (iaR xs l dev cs) w (.returned (.tuple #[.agg #[.slice va zs.length vc, .slice oa m.length oc], .slice ka' qs.length kc])) ((wr.setCell ⟨w.heap.size + 1, 0, none⟩ (.slice va zs.length vc)).setCell ⟨w.heap.size + 1, 1, none⟩ (.slice oa m.length oc))) := by
    rw [HGood.out, HZe.out, HQe.out]
    exact ⟨va, vc, oa, oc, ka', kc, l1, h1, h2, k1, k2, rfl, hi'.kept (fun j x y => pair_other _ _ (by omega)), by rw [a7 rfl]; exact ho'.kept (fun j x y => pair_other _ _ (by omega)), hko.kept (fun j x y => pair_other _ _ (by omega)), ⟨by omega, a2, by have := a7 rfl; omega, by rw [pair_size]; omega, by omega, k4, by rw [pair_size]; omega, by have := a7 rfl; omega⟩, hbf⟩
   clear hi' ho' hko hrow hdis hbf hn
   go_wp2
   generalize (wr.setCell ⟨w.heap.size + 1, 0, none⟩ (.slice va zs.length vc)).setCell ⟨w.heap.size + 1, 1, none⟩ (.slice oa m.length oc) = wf at HX6 HI6 ⊢
   obtain ⟨p0, p1⟩ := pair_cells HX6.out
   exact bodyPost_ret (v := .tuple #[.agg #[.slice va zs.length vc, .slice oa m.length oc], .slice ka' qs.length kc]) (by simp [results, Tryz.results18, go_sem, p0, p1]) rfl HI6.out
set_option linter.unusedVariables false
set_option linter.unusedSimpArgs false


set_option maxHeartbeats 5000000 in
theorem markCartM (w : World) (lo mid hi : Nat) (av ao : Option Addr) (nv cv no co : Nat) (xs : List Int) (l : List OpV) (hx : Own w lo mid av nv xs) (h : OwnOps w mid hi ao no l) (h1 : lo ≤ mid) (h2 : mid ≤ hi) (hh : hi ≤ w.heap.size) (hv : nv ≤ 1048576) (hn : no ≤ 1048576) (k : Nat) (hk0 : 0 < k) (hk : k ≤ 9000000) :
  Calls Tryz.prog 13 #[.agg #[.slice av nv cv, .slice ao no co], .int .i64 (k : Int)] w fun e w' => (∃ m : Nat, Hid (m = k + nv + 8 * no) ∧ e = .returned (.int .i64 (m : Int))) ∧ Own w' lo mid av nv (marks k nv) ∧ OwnOps w' mid hi ao no (opMarks (k + nv) no) ∧ Beside lo hi w w' := by
 have hb0 : Below w.heap.size w (w.alloc (.cells #[.slice av nv cv, .slice ao no co] 32)) := (Below.refl _ w).alloc (Nat.le_refl _) _
 have HV := Lib.hid (hx.below hb0 (by omega))
 have HO := Lib.hid (h.below hb0 hh)
 have HB : Hid (Beside lo hi w (w.alloc (.cells #[.slice av nv cv, .slice ao no co] 32))) := Below.beside hb0
 have HX := Lib.hid (boxAt (Below.refl _ (w.alloc (.cells #[.slice av nv cv, .slice ao no co] 32))))
 have hsz : w.heap.size < (w.alloc (.cells #[.slice av nv cv, .slice ao no co] 32)).heap.size := by show _ < (w.heap.push _).size; simp
 clear hx h hb0
 go_enter Tryz.func13, Tryz.ntmps13
 go_wp2_with fail
 generalize w.alloc (.cells #[.slice av nv cv, .slice ao no co] 32) = w0 at HV HO HB HX hsz ⊢
 refine (mark w0 lo mid av nv cv xs HV.out k (by omega) hv).mono ?_
 rintro e w1 ⟨⟨m, hm, rfl⟩, ho, hO⟩
 have HO1 : Hid (OwnOps w1 mid hi ao no l) := HO.out.kept fun j h1 h2 => hO.block j (by omega)
 have HX1 := Lib.hid ((hO.block _ (.inr (by omega))).trans HX.out)
 have HB1 := Lib.hid (HB.out.trans (hO.beside.wide (Nat.le_refl _) h2))
 have hs1 : w.heap.size < w1.heap.size := by have := hO.size; omega
 have hmb : 0 < m ∧ m ≤ 10048577 := by omega
 obtain ⟨hm0, hm1⟩ := hmb
 have HMm := Lib.hid hm
 have HV1 := Lib.hid ho
 clear ho hO HX HV HO HB hm
 obtain ⟨c0, c1⟩ := pair_cells HX1.out
 go_wp2_with fail
 refine (markOps w1 mid hi ao no co l HO1.out m hm0 (by omega) hn).mono ?_
 rintro e w2 ⟨⟨m2, hm2, rfl⟩, ho2, hO⟩
 have HV2 : Hid (Own w2 lo mid av nv (marks k nv)) := HV1.out.kept fun j h1 h2 => hO.block j (by omega) (.inl h2)
 have HP2 : Hid (OwnOps w2 mid hi ao no (opMarks (k + nv) no)) := by
  have e : k + nv = m := by have := HMm.out; omega
  rw [e]
  exact ho2
 have HB2 := Lib.hid (HB1.out.trans (hO.wide h1 (Nat.le_refl _)))
 have hm2' : Hid (m2 = k + nv + 8 * no) := by have := HMm.out; show _ = _; omega
 clear hO c0 c1 HX1 HB1 HO1 hm2 HMm HV1 ho2
 go_wp2
 go_ret
 exact ⟨⟨m2, hm2', rfl⟩, HV2.out, HP2.out, HB2.out⟩

set_option maxHeartbeats 5000000 in
theorem heldCart (w : World) (B : Nat) (av ao : Option Addr) (nv cv no co k : Nat) (hx : Ints w B av nv (marks k nv)) (h : Ops w B ao no (opMarks (k + nv) no)) (hB : B ≤ w.heap.size) (hv : nv ≤ 1048576) (hn : no ≤ 1048576) (hk0 : 0 < k) (hk : k ≤ 1000000) :
  Calls Tryz.prog 14 #[.agg #[.slice av nv cv, .slice ao no co], .int .i64 (k : Int)] w fun e w' => e = .returned (.int .i64 ((k + nv + 8 * no : Nat) : Int)) ∧ Below w.heap.size w w' := by
 have hb0 : Below w.heap.size w (w.alloc (.cells #[.slice av nv cv, .slice ao no co] 32)) := (Below.refl _ w).alloc (Nat.le_refl _) _
 have HV := Lib.hid (hx.below hb0 hB)
 have HO := Lib.hid (h.below hb0 hB)
 have HB := Lib.hid hb0
 have HX := Lib.hid (boxAt (Below.refl _ (w.alloc (.cells #[.slice av nv cv, .slice ao no co] 32))))
 have hsz : w.heap.size < (w.alloc (.cells #[.slice av nv cv, .slice ao no co] 32)).heap.size := by show _ < (w.heap.push _).size; simp
 have hBw := hB
 clear hx h hb0 hB
 go_enter Tryz.func14, Tryz.ntmps14
 go_wp2_with fail
 generalize w.alloc (.cells #[.slice av nv cv, .slice ao no co] 32) = w0 at HV HO HB HX hsz ⊢
 refine (held w0 B av nv cv k HV.out (by omega) hv).mono ?_
 rintro e w1 ⟨rfl, rfl⟩
 have hk1 : 0 < k + nv := by omega
 have hk2 : k + nv ≤ 20000000 := by omega
 have hd1 : ¬ (((k + nv : Nat) : Int) < 0) := by omega
 obtain ⟨c0, c1⟩ := pair_cells HX.out
 generalize hkn : k + nv = kn at HO hk1 hk2 hd1 ⊢
 go_wp2_with fail
 refine (heldOps w0 B ao no co kn HO.out (by omega) hk1 hk2 hn).mono ?_
 rintro e w2 ⟨rfl, hb2⟩
 have HB2 := Lib.hid (HB.out.trans (hb2.mono (by omega)))
 have hd2 : ¬ (((kn + 8 * no : Nat) : Int) < 0) := by omega
 generalize hkm : kn + 8 * no = km at hd2 ⊢
 have HK2 : Hid (k + nv + 8 * no = km) := by show _ = _; omega
 clear hb2 c0 c1 hkm hkn
 go_wp2
 go_ret
 exact ⟨by rw [HK2.out]; rfl, HB2.out⟩

theorem Own.besideM {w w' : World} {lo hi lo' hi' : Nat} {a : Option Addr} {n : Nat} {xs : List Int} (h : Own w lo hi a n xs) (hb : Beside lo' hi' w w') (hd : hi ≤ lo' ∨ hi' ≤ lo) (hw : hi ≤ w.heap.size) : Own w' lo hi a n xs :=
 h.kept fun j h1 h2 => hb.block j (by omega) (by omega)
end Go.Proofs.YtjokbaaommicmaaGreatDoor
