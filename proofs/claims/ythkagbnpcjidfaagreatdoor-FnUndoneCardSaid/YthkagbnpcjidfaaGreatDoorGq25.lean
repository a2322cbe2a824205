/- Walks and mathematics that several claims share, part 25. -/
import Derived.Test.YthkagbnpcjidfaaGreatDoorGq24
import Derived.Test.YthkagbnpcjidfaaGreatDoorGq23
import Derived.Sort.Walk0
import Derived.Deep.CutRange
import Derived.Deep.CutBlock
import Derived.Deep.Cut
namespace Go.Proofs.YthkagbnpcjidfaaGreatDoor
set_option maxRecDepth 100000
open Go.RowKit
set_option linter.unusedVariables false
set_option linter.unusedSimpArgs false
theorem aDp (a b : ByteArray) : Op.bytesLess a.toList b.toList = qE a b := bytesLess_eq _ _
def aQb (L : List ByteArray) (w : World) (e : Ending) (w' : World) : Prop :=
 ∃ g c, e = .returned (.slice (some ⟨g, 0, none⟩) L.length c) ∧ eX w' w.heap.size w'.heap.size (some ⟨g, 0, none⟩) L.length L ∧ Below w.heap.size w w'
theorem aMZ {w : World} {base n c : Nat} {a : Option Addr} {L : List ByteArray} (h : w.ownsRow base 9 1 (.slice a n c) n (L.map Value.string)) : eX w base w.heap.size a n L := by
 obtain ⟨a', c', e, ho⟩ := M4 h
 injection e with e1 e2 e3
 subst e1
 exact ho
theorem aGM {l : List aA} {k i : Nat} {L : List ByteArray} {s : ByteArray} (_hk : k < l.length) (hL : bV l k = L) (hs : s = (aB l k).item) (hi : i ≤ L.length) (h1 : ∀ q, q < i → qE (L.getD q ⟨#[]⟩) s = true) (h2 : i < L.length → qE (L.getD i ⟨#[]⟩) s = false) :
  bV l (k + 1) = if (i < L.length ∧ L.getD i ⟨#[]⟩ = s) ∨ ¬ aL s l l.length % 2 = 1 then L else L.take i ++ [s] ++ L.drop i := by
 have e : (l.getD k aA.zero).item = s := hs.symm
 rw [bV, e, hL]
 by_cases hl : aL s l l.length % 2 = 1
 ·rw [if_pos hl, aGn s L i hi h1 h2]
  by_cases hc : i < L.length ∧ L.getD i ⟨#[]⟩ = s
  ·rw [if_pos hc, if_pos (.inl hc)]
  ·rw [if_neg hc, if_neg (fun h => h.elim hc (fun h => h hl)), List.append_assoc]
   rfl
 ·rw [if_neg hl, if_pos (.inr hl)]
set_option maxHeartbeats 40000000 in
theorem aJD (w : World) (B : Nat) (av ao : Option Addr) (nv cv no co : Nat) (xs : List Int) (l : List aA) (h : bR w B ao no l) (hB : B ≤ w.heap.size) (hn : no ≤ 1048576) (hc : aD xs l = true) :
  Calls Tryz.prog 115 #[.agg #[.slice av nv cv, .slice ao no co]] w (aQb (bV l l.length) w) := by
 obtain rfl := h.1
 have HC := aRp hc
 clear hc
 have bG : Below w.heap.size w (w.alloc (.cells #[.slice av nv cv, .slice ao l.length co] 27)) := (Below.refl _ w).alloc aRr _
 have HO := aRp (h.below bG hB)
 have HB := aRp bG
 have HX := aRp (bM (Below.refl _ (w.alloc (.cells #[.slice av nv cv, .slice ao l.length co] 27))))
 have dA : (w.alloc (.cells #[.slice av nv cv, .slice ao l.length co] 27)).heap.size = w.heap.size + 1 := by show (w.heap.push _).size = _; simp
 clear h bG
 go_enter Tryz.func115, Tryz.ntmps115
 go_wp2
 obtain ⟨w0, hw0⟩ : ∃ w0, w0 = w.alloc (.cells #[.slice av nv cv, .slice ao l.length co] 27) := ⟨_, rfl⟩
 rw [← hw0] at HO HB HX dA ⊢
 clear hw0
 have oL := World.ownsRow_made (e := 9) (size := 1) (base := w.heap.size + 1) w0 #[] 0 (by omega) (by unfold maxLen; omega) rfl
 rw [dA] at oL
 have nJ := aRp oL
 have HW0 : Hid (Below (w.heap.size + 1) w0 (w0.alloc (.cells #[] 9))) := (Below.refl _ _).alloc (by omega) _
 have rB : w0.heap.size ≤ w.heap.size + 1 := by omega
 have aPx : w.heap.size + 1 ≤ w0.heap.size := by omega
 clear dA oL
 go_loopw [3, 4] (fun v i wr => ∃ (k : Nat) (L : List ByteArray) (g c : Nat), k ≤ l.length ∧ i = .int .i64 (k : Int) ∧ v = .slice (some ⟨g, 0, none⟩) L.length c ∧ Hid (L.length ≤ k) ∧ Hid (bV l k = L) ∧ Hid (wr.ownsRow (w.heap.size + 1) 9 1 (.slice (some ⟨g, 0, none⟩) L.length c) L.length (L.map Value.string)) ∧ Hid (Below (w.heap.size + 1) w0 wr)) (fun _ i _ => l.length - (intOf i).toNat)
 case atStart => exact ⟨0, [], _, _, Nat.zero_le _, rfl, rfl, Nat.le_refl _, rfl, nJ.out, HW0.out⟩
 case round =>
  obtain ⟨k, L, g, c, hk, rfl, rfl, vR, HLt, HR, eE⟩ := hrel; have hLk : L.length ≤ l.length := Nat.le_trans vR.out hk; have vI := eE.out.size; have jQ : L.length ≤ c := (fY HR.out).1; have cG := aRp ((eE.out.block w.heap.size (by omega)).trans HX.out)
  obtain ⟨c0, c1⟩ := pair_cells cG.out
  by_cases aM : k < l.length
  ·obtain ⟨b, off, rfl, hb, ho⟩ := (HO.out.below eE.out (by omega)).2 k aM
   have hki : (k : Int) < (l.length : Int) := by omega
   have c4 := ho.2.2.2.2.1; obtain ⟨s, hs⟩ : ∃ s, s = (l.getD k aA.zero).item := ⟨_, rfl⟩; rw [← hs] at c4; have lR : Hid (s = (aB l k).item) := hs; have E6 := aRp (pX HR.out); clear ho hs
   go_upto_block 2 with fail
   clear c4 c0 c1
   go_cut [6] from 9 to 67 (fun j wx => wx = wr ∧ ∃ i : Nat, i ≤ L.length ∧ j = .int .i64 (i : Int) ∧ Hid (∀ q, q < i → qE (L.getD q ⟨#[]⟩) s = true) ∧ Hid (i < L.length → qE (L.getD i ⟨#[]⟩) s = false))
   case first =>
    go_wp2
    go_loop [6] (fun j => ∃ i : Nat, i ≤ L.length ∧ j = .int .i64 (i : Int) ∧ Hid (∀ q, q < i → qE (L.getD q ⟨#[]⟩) s = true)) (fun j => L.length - (intOf j).toNat)
    case atStart => exact ⟨0, Nat.zero_le _, rfl, fun q hq => absurd hq (by omega)⟩
    case round =>
     obtain ⟨i, hi, rfl, HLe⟩ := hrel
     by_cases qV : i < L.length
     ·obtain ⟨b2, o2, e2, aI, oB⟩ := E6.out.2 i qV
      injection e2 with e2; injection e2 with e3 e4; subst e3 e4; rw [Nat.zero_add] at oB; obtain ⟨x, hx⟩ : ∃ x, x = L.getD i ⟨#[]⟩ := ⟨_, rfl⟩; rw [← hx] at oB; have hii : (i : Int) < (L.length : Int) := by omega
      have HXx := aRp hx; clear hx; rcases hl : Op.bytesLess x.toList s.toList with _ | _
      ·have HF : Hid (i < L.length → qE (L.getD i ⟨#[]⟩) s = false) := fun _ => by rw [← HXx.out]; exact (aDp _ _).symm.trans hl
       go_wp2
       go_meet
       exact ⟨rfl, i, hi, rfl, HLe, HF⟩
      ·have HS : Hid (∀ q, q < i + 1 → qE (L.getD q ⟨#[]⟩) s = true) := fun q hq => by
        rcases Nat.lt_or_ge q i with h1 | h1
        ·exact HLe.out q h1
        ·obtain rfl : q = i := by omega
         rw [← HXx.out]; exact (aDp _ _).symm.trans hl
       go_wp2
       exact ⟨⟨i + 1, by omega, by go_num, HS⟩, by simp [intOf]; omega⟩
     ·have HF : Hid (i < L.length → qE (L.getD i ⟨#[]⟩) s = false) := fun h => absurd h qV
      go_wp2
      go_meet
      exact ⟨rfl, i, hi, rfl, HLe, HF⟩
   case rest =>
    obtain ⟨hwc, i, hi, rfl, HLe, HFe⟩ := hcut; subst hwc; obtain ⟨c0, c1⟩ := pair_cells cG.out
    go_upto_region 9 with fail
    have Y2 := aRp (aGM aM HLt.out lR.out hi HLe.out HFe.out)
    go_cut [53] from 9 to 67 (fun bv wx => (∃ bb : Bool, bv = .bool bb ∧ Hid (bV l (k + 1) = if bb = true then L else L.take i ++ [s] ++ L.drop i)) ∧ Hid (Below wc.heap.size wc wx))
    case first =>
     by_cases qV : i < L.length
     ·obtain ⟨b2, o2, e2, aI, oB⟩ := E6.out.2 i qV
      injection e2 with e2; injection e2 with e3 e4; subst e3 e4; rw [Nat.zero_add] at oB; obtain ⟨x, hx⟩ : ∃ x, x = L.getD i ⟨#[]⟩ := ⟨_, rfl⟩; rw [← hx] at oB; have hii : (i : Int) < (L.length : Int) := by omega
      by_cases nH : (x.toList == s.toList) = true
      ·have HE : Hid (bV l (k + 1) = if true = true then L else L.take i ++ [s] ++ L.drop i) := by
        show _ = L
        rw [Y2.out, if_pos (.inl ⟨qV, by rw [← hx]; exact aKU (by simpa using nH)⟩)]
       clear hx; go_wp2
       go_meet
       exact ⟨⟨_, rfl, HE⟩, Below.refl _ _⟩
      ·have aPp : (x.toList == s.toList) = false := by simpa using nH
       have HE : Hid (∀ b : Bool, decide (aL s l l.length % 2 = 1) = b → bV l (k + 1) = if (!b) = true then L else L.take i ++ [s] ++ L.drop i) := by
        intro b hb
        rw [Y2.out]; have h1 : ¬ (i < L.length ∧ L.getD i ⟨#[]⟩ = s) := fun h => nH (by rw [hx, h.2]; exact beq_self_eq_true _)
        cases b
        ·rw [if_pos (.inr (of_decide_eq_false hb))]; rfl
        ·rw [if_neg (fun h => h.elim h1 (fun h => h (of_decide_eq_true hb)))]; rfl
       clear nH hx
       go_wp2_with fail
       refine (aAv wc B av _ nv cv l.length co xs l s (HO.out.below eE.out (by omega)) (by omega) hn HC.out).mono ?_
       rintro e w2 ⟨rfl, aS⟩; obtain ⟨tb, htb⟩ : ∃ b, decide (aL s l l.length % 2 = 1) = b := ⟨_, rfl⟩; have HTb := aRp (HE.out tb htb); rw [htb]; clear htb; go_wp2
       all_goals (go_meet; exact ⟨⟨_, rfl, HTb⟩, aS⟩)
     ·have HE : Hid (∀ b : Bool, decide (aL s l l.length % 2 = 1) = b → bV l (k + 1) = if (!b) = true then L else L.take i ++ [s] ++ L.drop i) := by
       intro b hb
       rw [Y2.out]; cases b
       ·rw [if_pos (.inr (of_decide_eq_false hb))]; rfl
       ·rw [if_neg (fun h => h.elim (fun h => qV h.1) (fun h => h (of_decide_eq_true hb)))]; rfl
      go_wp2_with fail
      refine (aAv wc B av _ nv cv l.length co xs l s (HO.out.below eE.out (by omega)) (by omega) hn HC.out).mono ?_
      rintro e w2 ⟨rfl, aS⟩; obtain ⟨tb, htb⟩ : ∃ b, decide (aL s l l.length % 2 = 1) = b := ⟨_, rfl⟩; have HTb := aRp (HE.out tb htb); rw [htb]; clear htb; go_wp2
      all_goals (go_meet; exact ⟨⟨_, rfl, HTb⟩, aS⟩)
    case rest =>
     obtain ⟨⟨bb, rfl, HBb⟩, HW⟩ := hcut; clear c0 c1; have hw2 := HW.out.size; have cA := aRp (eE.out.trans (HW.out.mono (by omega)))
     have lS : Hid (wc.ownsRow (w.heap.size + 1) 9 1 (.slice (some ⟨g, 0, none⟩) L.length c) L.length (L.map Value.string)) := HR.out.kept (row := none) ⟨HW.out.os, HW.out.tape, HW.out.output, HW.out.size, fun j hj _ => HW.out.block j hj⟩ (.inr (by simp [Value.ownBlock]))
     have HS2 := aRp (pX lS.out); cases bb
     ·have aPT : i ≤ c := by omega
      have bG : Below wc.heap.size wc (wc.alloc (.cells #[] 9)) := bl; have oL : (wc.alloc (.cells #[] 9)).ownsRow wc.heap.size 9 1 (.slice (some ⟨wc.heap.size, 0, none⟩) 0 0) 0 (([] : List ByteArray).map Value.string) := World.ownsRow_made wc #[] 0 aRr (by unfold maxLen; omega) rfl
      have hTk := (HS2.out.below bG aRr).take hi
      go_upto_region 10 with fail
      by_cases hci : i = c
      ·obtain rfl : i = c := hci
       have hiL : L.length ≤ i := by omega
       obtain ⟨v1, w3, nP, cR, oA⟩ := lY _ wc.heap.size _ 0 [] oL (wc.heap.size) (some ⟨g, 0, none⟩) i i (L.take i) hTk (fun h => by cases h) (by omega) bG.size
       have kP : w3.ownsRow wc.heap.size 9 1 v1 i ((L.take i).map Value.string) := by simpa using cR
       have qN : Below wc.heap.size wc w3 := bG.grown oA bG.size (fun j hj => (oL.lt j hj).1)
       clear cR oA oL; have gL : Below wc.heap.size w3 (w3.alloc (.cells #[.string s] 9)) := (Below.refl _ _).alloc qN.size _; have oC : iH (w3.alloc (.cells #[.string s] 9)) (w3.heap.size + 1) (some ⟨w3.heap.size, 0, none⟩) 1 [s] := P5 w3 s; have nU := kP.alloc (.cells #[.string s] 9); obtain ⟨v2, w4, nO, dL, nZ⟩ := lY _ wc.heap.size v1 i (L.take i) nU (w3.heap.size + 1) (some ⟨w3.heap.size, 0, none⟩) 1 1 [s] oC (fun h => by cases h) (by omega) (Nat.le_trans qN.size gL.size)
       have mL : Below wc.heap.size wc w4 := qN.trans (gL.grown nZ (Nat.le_trans qN.size gL.size) (fun j hj => (nU.lt j hj).1))
       have p7 : iH w4 wc.heap.size (some ⟨g, 0, none⟩) 0 (L.drop i) := ⟨by rw [List.length_drop]; omega, fun j hj => absurd hj (by omega)⟩
       obtain ⟨v3, w5, nN, nV, nY⟩ := lY w4 wc.heap.size v2 (i + 1) _ dL wc.heap.size (some ⟨g, 0, none⟩) 0 0 (L.drop i) p7 (fun h => by cases h) (by omega) mL.size
       have q5 : Below wc.heap.size wc w5 := mL.grown nY mL.size (fun j hj => (dL.lt j hj).1)
       obtain ⟨g5, c5, rfl⟩ : ∃ g5 c5, v3 = .slice (some ⟨g5, 0, none⟩) (i + 1 + 0) c5 := by
        rcases nV.2 with ⟨_, e2⟩ | ⟨g5, c5, _, e2, _⟩
        ·omega
        ·exact ⟨g5, c5, e2⟩
       have pC : (L.take i ++ [s] ++ L.drop i).length = i + 1 + 0 := by simp; omega
       have HR5 : Hid (w5.ownsRow (w.heap.size + 1) 9 1 (.slice (some ⟨g5, 0, none⟩) (i + 1 + 0) c5) (i + 1 + 0) ((L.take i ++ [s] ++ L.drop i).map Value.string)) := P3 nV (by omega)
       have kL : Hid (Below (w.heap.size + 1) w0 w5) := cA.out.trans (q5.mono (by omega))
       have HL5 : Hid ((L.take i ++ [s] ++ L.drop i).length ≤ k + 1) := by have := vR.out; show _ ≤ _; rw [pC]; omega
       have J2 : Hid (bV l (k + 1) = L.take i ++ [s] ++ L.drop i) := HBb.out; clear kP dL nV nZ nY qN mL q5 gL oC nU p7
       go_upto_region 11 with (at_builtin; refine dB rfl _ _ _ rfl _ _ rfl rfl nP ?_)
       go_upto_region 12 with (at_builtin; refine dB rfl _ _ _ rfl _ _ rfl rfl nO ?_)
       go_upto_region 4 with (at_builtin; refine dB rfl _ _ _ rfl _ _ rfl rfl nN ?_)
       go_wp2
       go_roundw
       case rel => exact ⟨k + 1, L.take i ++ [s] ++ L.drop i, g5, c5, by omega, by go_num, by first | rw [pC] | (rw [pC]; rfl), HL5, J2, by rw [pC]; exact HR5, kL⟩
       case measure => simp [intOf]; omega
      ·have oB : ¬ (c : Int) = (i : Int) := by omega
       obtain ⟨v1, w3, nP, cR, oA⟩ := lY _ wc.heap.size _ 0 [] oL (wc.heap.size) (some ⟨g, 0, none⟩) i c (L.take i) hTk (fun h => by cases h) (by omega) bG.size
       have kP : w3.ownsRow wc.heap.size 9 1 v1 i ((L.take i).map Value.string) := by simpa using cR
       have qN : Below wc.heap.size wc w3 := bG.grown oA bG.size (fun j hj => (oL.lt j hj).1)
       clear cR oA oL; have gL : Below wc.heap.size w3 (w3.alloc (.cells #[.string s] 9)) := (Below.refl _ _).alloc qN.size _; have oC : iH (w3.alloc (.cells #[.string s] 9)) (w3.heap.size + 1) (some ⟨w3.heap.size, 0, none⟩) 1 [s] := P5 w3 s; have nU := kP.alloc (.cells #[.string s] 9); obtain ⟨v2, w4, nO, dL, nZ⟩ := lY _ wc.heap.size v1 i (L.take i) nU (w3.heap.size + 1) (some ⟨w3.heap.size, 0, none⟩) 1 1 [s] oC (fun h => by cases h) (by omega) (Nat.le_trans qN.size gL.size)
       have mL : Below wc.heap.size wc w4 := qN.trans (gL.grown nZ (Nat.le_trans qN.size gL.size) (fun j hj => (nU.lt j hj).1))
       have p7 : iH w4 wc.heap.size (some ⟨g, i, none⟩) (L.length - i) (L.drop i) := ((HS2.out.below mL aRr).drop hi); obtain ⟨v3, w5, nN, nV, nY⟩ := lY w4 wc.heap.size v2 (i + 1) _ dL wc.heap.size (some ⟨g, i, none⟩) (L.length - i) (c - i) (L.drop i) p7 (fun h => by cases h) (by omega) mL.size
       have q5 : Below wc.heap.size wc w5 := mL.grown nY mL.size (fun j hj => (dL.lt j hj).1)
       obtain ⟨g5, c5, rfl⟩ : ∃ g5 c5, v3 = .slice (some ⟨g5, 0, none⟩) (i + 1 + (L.length - i)) c5 := by
        rcases nV.2 with ⟨_, e2⟩ | ⟨g5, c5, _, e2, _⟩
        ·omega
        ·exact ⟨g5, c5, e2⟩
       have pC : (L.take i ++ [s] ++ L.drop i).length = i + 1 + (L.length - i) := by simp; omega
       have HR5 : Hid (w5.ownsRow (w.heap.size + 1) 9 1 (.slice (some ⟨g5, 0, none⟩) (i + 1 + (L.length - i)) c5) (i + 1 + (L.length - i)) ((L.take i ++ [s] ++ L.drop i).map Value.string)) := P3 nV (by omega)
       have kL : Hid (Below (w.heap.size + 1) w0 w5) := cA.out.trans (q5.mono (by omega))
       have HL5 : Hid ((L.take i ++ [s] ++ L.drop i).length ≤ k + 1) := by have := vR.out; show _ ≤ _; rw [pC]; omega
       have J2 : Hid (bV l (k + 1) = L.take i ++ [s] ++ L.drop i) := HBb.out; clear kP dL nV nZ nY qN mL q5 gL oC nU p7
       go_upto_region 11 with (at_builtin; refine dB rfl _ _ _ rfl _ _ rfl rfl nP ?_)
       go_upto_region 12 with (at_builtin; refine dB rfl _ _ _ rfl _ _ rfl rfl nO ?_)
       go_upto_region 4 with (at_builtin; refine dB rfl _ _ _ rfl _ _ rfl rfl nN ?_)
       go_wp2
       go_roundw
       case rel => exact ⟨k + 1, L.take i ++ [s] ++ L.drop i, g5, c5, by omega, by go_num, by first | rw [pC] | (rw [pC]; rfl), HL5, J2, by rw [pC]; exact HR5, kL⟩
       case measure => simp [intOf]; omega
     ·go_upto_region 4 with fail
      go_wp2
      go_roundw
      case rel => exact ⟨k + 1, L, g, c, by omega, by go_num, rfl, Nat.le_succ_of_le vR.out, HBb, lS, cA⟩
      case measure => simp [intOf]; omega
  ·obtain rfl : k = l.length := by omega
   have E6 := aRp ((aMZ HR.out).more (Nat.le_succ _) aRr); have HZ := aRp (HB.out.trans (eE.out.mono (by omega)))
   go_wp2
   go_ret
   exact ⟨g, c, by rw [HLt.out]; rfl, by rw [HLt.out]; exact E6.out, HZ.out⟩
theorem eX.grown {w w' : World} {lo hi base m : Nat} {a : Option Addr} {n : Nat} {l : List ByteArray} {v : Value} {xs : List Value} (h : eX w lo hi a n l) (hr : w.ownsRow base 39 3 v m xs) (hg : w.grownBy w' v.ownBlock) : eX w' lo hi a n l :=
 ⟨h.1, fun hn => by
  obtain ⟨g, off, cs, e, h1, h2, hb, r⟩ := h.2 hn; refine ⟨g, off, cs, e, h1, h2, (hg.block g (aRq hb).1 (fun e' => ?_)).trans hb, r⟩
  rcases hr.2 with ⟨e2, _⟩ | ⟨g', c, aY, e2, _, hg', _⟩
  ·rw [e2] at e'
   cases e'
  ·rw [e2] at e'
   have : g = g' := by simpa [Value.ownBlock] using e'
   subst this; rw [hb] at hg'; injection hg' with hg'; injection hg' with _ ht _; exact absurd ht (by decide)⟩
theorem aBP {xs : List Int} {l : List aA} : (jM xs l).length ≤ 160 := by
 unfold jM
 split
 ·rename_i h
  exact Nat.le_trans (wM l _) (eF h)
 ·simp
end Go.Proofs.YthkagbnpcjidfaaGreatDoor
