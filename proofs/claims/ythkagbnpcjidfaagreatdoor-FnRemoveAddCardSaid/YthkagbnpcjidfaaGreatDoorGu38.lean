/- Walks and mathematics that several claims share, part 38. -/
import Derived.Test.YthkagbnpcjidfaaGreatDoorGu37
import Derived.Test.YthkagbnpcjidfaaGreatDoorGu25
import Derived.Laws.Rows
namespace Go.Proofs.YthkagbnpcjidfaaGreatDoor
set_option maxRecDepth 100000
open Go.RowKit
set_option linter.unusedVariables false
set_option linter.unusedSimpArgs false
def sO (bJ : List aA) (ks : List ByteArray) : Nat → List aS
 | 0 => []
 | k + 1 => if (cA (ks.getD k ⟨#[]⟩) bJ).level % 2 = 1 then sO bJ ks k ++ [⟨ks.getD k ⟨#[]⟩, (cA (ks.getD k ⟨#[]⟩) bJ).counted.qty, decide ((cA (ks.getD k ⟨#[]⟩) bJ).placed.kind = 4)⟩] else sO bJ ks k
theorem aFb (bJ : List aA) (ks : List ByteArray) (k : Nat) : sO bJ ks (k + 1) = if (cA (ks.getD k ⟨#[]⟩) bJ).level % 2 = 1 then sO bJ ks k ++ [⟨ks.getD k ⟨#[]⟩, (cA (ks.getD k ⟨#[]⟩) bJ).counted.qty, decide ((cA (ks.getD k ⟨#[]⟩) bJ).placed.kind = 4)⟩] else sO bJ ks k := rfl
theorem aAk (bJ : List aA) (ks : List ByteArray) : ∀ k, k ≤ ks.length → sO bJ ks k = ((ks.take k).filter (fun x => decide ((cA x bJ).level % 2 = 1))).map fun x => ⟨x, (cA x bJ).counted.qty, decide ((cA x bJ).placed.kind = 4)⟩
 | 0, _ => rfl
 | k + 1, hk => by
  have ih := aAk bJ ks k (by omega)
  have e : ks.take (k + 1) = ks.take k ++ [ks.getD k ⟨#[]⟩] := by
   rw [List.take_succ_eq_append_getElem (by omega : k < ks.length), List.getD_eq_getElem?_getD, List.getElem?_eq_getElem (by omega)]
   rfl
  rw [sO, e, List.filter_append, List.map_append, ih]
  by_cases h : (cA (ks.getD k ⟨#[]⟩) bJ).level % 2 = 1
  ·rw [if_pos h, List.filter_cons, if_pos (decide_eq_true h)]
   rfl
  ·rw [if_neg h, List.filter_cons, if_neg (by simpa using h)]
   simp
theorem aKj {xs : List Int} {l : List aA} {ks : List ByteArray} (h : aBx (counted xs l) ks) : sO (counted xs l) ks ks.length = aZ xs l := by
 rw [aAk _ _ _ aPq, List.take_length]
 have e : counted xs l = (if aE xs l = true then gV l l.length else []) := rfl
 rw [e] at h ⊢
 rw [aFe h]
 unfold aZ cF
 rcases hc : aE xs l with _ | _
 ·rfl
 ·rw [if_pos rfl, if_pos rfl]
  refine List.map_congr_left fun x _ => ?_
  rw [xY hc x l.length aPq]
  rfl
theorem g6 {xs : List Int} {l : List aA} {o : aA} (h : o ∈ counted xs l) : o ∈ l := by
 unfold counted at h
 split at h
 ·unfold gV at h
  exact List.mem_of_mem_take (List.mem_filter.1 h).1
 ·cases h
theorem P6 {B : Nat} {e : TypeId} {k : Nat} {v : Value} {n : Nat} {xs : List Value} {w w' : World} (h : w.ownsRow B e k v n xs) (hb : Below w.heap.size w w') : w'.ownsRow B e k v n xs :=
 h.kept (row := none) (below_grown hb) (by cases hv : v.ownBlock <;> simp)
theorem aEg {ks : List ByteArray} {k : Nat} (h : k < ks.length) : ks.getD k ⟨#[]⟩ ∈ ks := by
 rw [List.getD_eq_getElem?_getD, List.getElem?_eq_getElem h]
 exact List.getElem_mem h
theorem aHG {w : World} {base aAD : Nat} {e : TypeId} {k : Nat} {v : Value} {n : Nat} {xs : List Value} (h : w.ownsRow base e k v n xs) (hb : aAD ≤ base) : w.ownsRow aAD e k v n xs := by
 refine ⟨h.1, ?_⟩
 rcases h.2 with h2 | ⟨g, c, aW, e, hg, r⟩
 ·exact .inl h2
 ·exact .inr ⟨g, c, aW, e, Nat.le_trans hb hg, r⟩
def aKK (l : List aS) (w : World) (e : Ending) (w' : World) : Prop := ∃ a c, e = .returned (.slice a l.length c) ∧ w'.ownsRow w.heap.size 39 3 (.slice a l.length c) l.length (eS l) ∧ Below w.heap.size w w'
set_option maxHeartbeats 40000000 in
theorem aAr (w : World) (B : Nat) (av ao : Option Addr) (nv cv no co : Nat) (xs : List Int) (l : List aA) (hx : Ints w B av nv xs) (h : bP w B ao no l) (hB : B ≤ w.heap.size) (hv : nv ≤ 1048576) (hc : no ≤ co) (dP : Fits no co) (hm : ∀ o ∈ l, o.item.size ≤ 1048576) :
  Calls Tryz.prog 26 #[.agg #[.slice av nv cv, .slice ao no co]] w (aKK (aZ xs l) w) := by
 have yO : no ≤ 1048576 := dP.1
 have HL := aPo h.1
 have HX := aPo (hx.more hB)
 have HO := aPo (h.more hB)
 have HM := aPo hm
 have bD : Below w.heap.size w (w.alloc (.cells #[.slice av nv cv, .slice ao no co] 27)) := (Below.refl _ w).alloc aPq _
 have HB := aPo bD
 clear hx h hB hm bD
 go_enter Tryz.func26, Tryz.ntmps26
 go_wp2_with fail
 generalize w.alloc (.cells #[.slice av nv cv, .slice ao no co] 27) = w0 at HB ⊢
 refine (aGa w0 w.heap.size av ao nv cv no co xs l (HX.out.below HB.out aPq) (HO.out.below HB.out aPq) HB.out.size hv hc dP HM.out).mono ?_
 rintro e w1 ⟨rfl, hT, hb⟩
 obtain ⟨bm, hbm⟩ : ∃ b, w0.heap.size + 1 = b := ⟨_, rfl⟩
 rw [hbm] at hT ⊢
 have HT := aPo hT
 have cU := aPo (HB.out.trans (hb.mono HB.out.size))
 have hbw : w.heap.size ≤ bm := by have := HB.out.size; omega
 clear hT hb hbm HB
 go_wp2_with fail
 refine (aMO _ _).mono ?_
 rintro e w2 ⟨rfl, rfl⟩
 go_wp2_with fail
 refine (aJS w1 bm l.length _ HT.out (by have := HL.out; omega)).mono ?_
 rintro e w2 ⟨ks, ka, kc, rfl, hkl, aLL, uL, hks, hb⟩
 have HK : Hid (aBx (counted xs l) ks) := ⟨aLL, fun x => (uL x).trans (and_iff_right_of_imp (fun hs => by
  obtain ⟨o, ho, rfl⟩ := (aCp _ _).1 hs; have := HM.out o (g6 ho)
  show _ ≤ maxLen
  unfold maxLen; omega) |>.trans (aCp _ _))⟩
 have aK := aPo (HT.out.below hb)
 have HS2 := aPo hks.strs
 have bT := aPo (cU.out.trans (hb.mono cU.out.size))
 have j2 : Hid (∀ x ∈ ks, x.size ≤ 1048576) := fun x hx => by
  obtain ⟨o, ho, rfl⟩ := (HK.out.2 x).1 hx; exact HM.out o (g6 ho)
 have aO1 : ks.length ≤ 1048576 := by have := HL.out; omega
 clear hkl aLL uL hks hb cU HT HX HO
 go_wp2
 have oV := aPo (aE8 w2 w2.heap.size)
 have HW2 : Hid (w.heap.size ≤ w2.heap.size) := bT.out.size
 go_loopw [4, 14] (fun v i wr => ∃ (k : Nat) (L : List aS) (vv : Value), k ≤ ks.length ∧ i = .int .i64 (k : Int) ∧ vv = v ∧ Hid (wr.ownsRow w2.heap.size 39 3 vv L.length (eS L)) ∧ Hid (sO (counted xs l) ks k = L) ∧ Hid (L.length ≤ k) ∧ Hid (Below w2.heap.size w2 wr)) (fun _ i _ => ks.length - (intOf i).toNat)
 case atStart => exact ⟨0, [], _, Nat.zero_le _, rfl, rfl, oV, rfl, Nat.le_refl _, Below.refl _ _⟩
 case round =>
  obtain ⟨k, L, v, hk, rfl, rfl, HR, dV, uB, cW⟩ := hrel; clear oV
  by_cases aJ : k < ks.length
  rotate_left
  ·obtain rfl : k = ks.length := by omega
   obtain ⟨a, c, hv4, aU⟩ := sK HR.out aPq; subst hv4; have aDH := aPo (aHG HR.out HW2.out); have HF : Hid (aZ xs l = L) := (aKj HK.out).symm.trans dV.out; have bQ := aPo (bT.out.trans (cW.out.mono HW2.out)); clear aU HR; go_wp2
   go_ret
   exact ⟨a, c, by rw [HF.out]; rfl, by rw [HF.out]; exact aDH.out, bQ.out⟩
  obtain ⟨b, off, rfl, hb, hc⟩ := (HS2.out.below cW.out aPq).2 k aJ; have hki : (k : Int) < (ks.length : Int) := by omega
  have mV := j2.out _ (aEg aJ); have qA := aPo (aFb (counted xs l) ks k); obtain ⟨x, hx⟩ : ∃ x, ks.getD k ⟨#[]⟩ = x := ⟨_, rfl⟩; rw [hx] at hc mV; have HXe := aPo hx; clear hx; have hfx : wL x := by show _ ≤ maxLen; unfold maxLen; omega
  have hlk := ((aK.out.below cW.out).look Tryz.underlying89 (Tryz.stateZero wr) hfx).2; rw [aEs] at hlk; have h0 := aCn x (counted xs l); obtain ⟨s, hs⟩ : ∃ s, cA x (counted xs l) = s := ⟨_, rfl⟩; rw [hs] at hlk h0; have cM := aPo hs; clear hs; unfold cL.val at hlk; have cD := aPo (bX (Below.refl _ (wr.alloc (.cells #[.int .i64 0, .int .i64 0, .int .i64 0, .int .i64 0, .int .i64 0, .string ⟨#[]⟩, .int .i64 0, .int .i64 0, .int .i64 0, .int .i64 0, .int .i64 0, .int .i64 0, .int .i64 0, .string ⟨#[]⟩, .int .i64 0, .int .i64 0, .int .i64 0] 96)))); have aV : Below wr.heap.size wr ((wr.alloc (.cells #[.int .i64 0, .int .i64 0, .int .i64 0, .int .i64 0, .int .i64 0, .string ⟨#[]⟩, .int .i64 0, .int .i64 0, .int .i64 0, .int .i64 0, .int .i64 0, .int .i64 0, .int .i64 0, .string ⟨#[]⟩, .int .i64 0, .int .i64 0, .int .i64 0] 96)).setRow wr.heap.size s.cells) := eY bl aPq cD.out; have mD := aPo (setRow_heap (wr.alloc (.cells #[.int .i64 0, .int .i64 0, .int .i64 0, .int .i64 0, .int .i64 0, .string ⟨#[]⟩, .int .i64 0, .int .i64 0, .int .i64 0, .int .i64 0, .int .i64 0, .int .i64 0, .int .i64 0, .string ⟨#[]⟩, .int .i64 0, .int .i64 0, .int .i64 0] 96)) wr.heap.size _ s.cells 96 (0, 0) cD.out)
  go_upto_region 7 with (refine wpList_store_row rfl 96 (.tmp 7) (.tmp 20) rfl wr.heap.size s.cells rfl rfl 96 _ cD.out s.infoOf (by rw [cL.size]; rfl) s.one ?_)
  generalize (wr.alloc (.cells #[.int .i64 0, .int .i64 0, .int .i64 0, .int .i64 0, .int .i64 0, .string ⟨#[]⟩, .int .i64 0, .int .i64 0, .int .i64 0, .int .i64 0, .int .i64 0, .int .i64 0, .int .i64 0, .string ⟨#[]⟩, .int .i64 0, .int .i64 0, .int .i64 0] 96)).setRow wr.heap.size s.cells = w3 at aV mD ⊢; have vX := aPo (P6 HR.out aV); have dX := aPo (cW.out.trans (aV.mono cW.out.size)); clear aV cD HR cW hlk hc
  go_wp2_with (refine wpList_load_row rfl 96 (.tmp 7) rfl wr.heap.size rfl 96 s.cells (0, 0) _ mD.out Tryz.underlying96 rfl s.infoOf ?_)
  refine (mM s h0 w3).mono ?_
  rintro e w4 ⟨rfl, dJ⟩; have O1 := aPo ((dJ.block _ (aPp mD.out).1).trans mD.out); have HR4 := aPo (P6 vX.out dJ); have lF := aPo (dX.out.trans (dJ.mono dX.out.size)); clear dJ mD vX dX
  by_cases hp : s.level % 2 = 1
  rotate_left
  ·have HE : Hid (sO (counted xs l) ks (k + 1) = L) := by show _ = _; rw [qA.out, HXe.out, cM.out, if_neg hp, dV.out]
   rw [decide_eq_false hp]; clear hp qA; go_wp2
   go_roundw
   case rel => exact ⟨k + 1, L, _, by omega, by go_num, rfl, HR4, HE, Nat.le_succ_of_le uB.out, lF⟩
   case measure => simp [intOf]; omega
  have HE : Hid (sO (counted xs l) ks (k + 1) = L ++ [⟨x, s.counted.qty, decide (s.placed.kind = 4)⟩]) := by show _ = _; rw [qA.out, HXe.out, cM.out, if_pos hp, dV.out]
  have hI : xC s x = x := if_pos hp; have hQ : xB s = s.counted.qty := if_pos hp; have hS : xA s = decide (s.placed.kind = 4) := if_pos hp; rw [decide_eq_true hp]; clear hp qA
  go_wp2_with (refine wpList_load_row rfl 96 (.tmp 7) rfl wr.heap.size rfl 96 s.cells (0, 0) _ O1.out Tryz.underlying96 rfl s.infoOf ?_)
  refine (X6 s x h0 mV w4).mono ?_
  rintro e w5 ⟨rfl, bA⟩; rw [hI, hQ, hS]; have i8 := aPo (P6 HR4.out bA); have oX := aPo (lF.out.trans (bA.mono lF.out.size)); clear bA O1 HR4 lF hI hQ hS; obtain ⟨v6, w6, hrun, hr6, lK, _⟩ := aM2 w5 w2.heap.size v L.length L i8.out ⟨x, s.counted.qty, decide (s.placed.kind = 4)⟩ (by have := uB.out; omega) oX.out.size
  have HR6 : Hid (w6.ownsRow w2.heap.size 39 3 v6 (L ++ [(⟨x, s.counted.qty, decide (s.placed.kind = 4)⟩ : aS)]).length (eS (L ++ [⟨x, s.counted.qty, decide (s.placed.kind = 4)⟩]))) := by
   show World.ownsRow _ _ _ _ _ _ _
   rw [List.length_append]; exact hr6
  have aOl : Hid ((L ++ [(⟨x, s.counted.qty, decide (s.placed.kind = 4)⟩ : aS)]).length ≤ k + 1) := by
   show _ ≤ _
   rw [List.length_append]; have := uB.out
   show _ + 1 ≤ _
   omega
  have eN := aPo (oX.out.trans lK); clear hr6 lK i8 oX uB
  go_upto_region 9 with (at_builtin; refine cY rfl _ _ _ rfl _ _ rfl rfl hrun ?_)
  go_wp2
  go_roundw
  case rel => exact ⟨k + 1, _, _, by omega, by go_num, rfl, HR6, HE, aOl, eN⟩
  case measure => simp [intOf]; omega
theorem vL (w : World) (B : Nat) (av ao : Option Addr) (nv cv no co : Nat) (xs : List Int) (l : List aA) (hx : Ints w B av nv xs) (h : bP w B ao no l) (hB : B ≤ w.heap.size) (hv : nv ≤ 1048576) (hc : no ≤ co) (dP : Fits no co) (hm : ∀ o ∈ l, o.item.size ≤ 1048576) :
  Calls Tryz.prog 26 #[.agg #[.slice av nv cv, .slice ao no co]] w (aHu (aZ xs l) w) := by
 refine (aAr w B av ao nv cv no co xs l hx h hB hv hc dP hm).mono ?_
 rintro e w' ⟨a, c, e1, hr, hb⟩
 obtain ⟨a', c', e2, aU⟩ := sK hr aPq
 injection e2 with e3 _ e4
 subst e3 e4
 exact ⟨a, c, e1, aU, hb⟩
end Go.Proofs.YthkagbnpcjidfaaGreatDoor
