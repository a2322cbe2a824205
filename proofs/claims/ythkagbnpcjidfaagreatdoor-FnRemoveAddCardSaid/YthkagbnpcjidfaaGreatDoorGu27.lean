/- Walks and mathematics that several claims share, part 27. -/
import Derived.Test.YthkagbnpcjidfaaGreatDoorGu26
import Derived.Test.YthkagbnpcjidfaaGreatDoorGu25
import Derived.Sort.Walk0
import Derived.Deep.CutRange
import Derived.Deep.CutBlock
import Derived.Deep.Cut
namespace Go.Proofs.YthkagbnpcjidfaaGreatDoor
set_option maxRecDepth 100000
open Go.RowKit
set_option linter.unusedVariables false
set_option linter.unusedSimpArgs false
theorem aB2 (a b : ByteArray) : Op.bytesLess a.toList b.toList = pI a b := bytesLess_eq _ _
def aOb (L : List ByteArray) (w : World) (e : Ending) (w' : World) : Prop :=
 ∃ g c, e = .returned (.slice (some ⟨g, 0, none⟩) L.length c) ∧ eV w' w.heap.size w'.heap.size (some ⟨g, 0, none⟩) L.length L ∧ Below w.heap.size w w'
theorem aK5 {w : World} {base n c : Nat} {a : Option Addr} {L : List ByteArray} (h : w.ownsRow base 9 1 (.slice a n c) n (L.map Value.string)) : eV w base w.heap.size a n L := by
 obtain ⟨a', c', e, ho⟩ := uG h
 injection e with e1 e2 e3
 subst e1
 exact ho
theorem aFd {l : List aA} {k i : Nat} {L : List ByteArray} {s : ByteArray} (_hk : k < l.length) (hL : bU l k = L) (hs : s = (aC l k).item) (hi : i ≤ L.length) (h1 : ∀ q, q < i → pI (L.getD q ⟨#[]⟩) s = true) (h2 : i < L.length → pI (L.getD i ⟨#[]⟩) s = false) :
  bU l (k + 1) = if (i < L.length ∧ L.getD i ⟨#[]⟩ = s) ∨ ¬ aI s l l.length % 2 = 1 then L else L.take i ++ [s] ++ L.drop i := by
 have e : (l.getD k aA.zero).item = s := hs.symm
 rw [bU, e, hL]
 by_cases hl : aI s l l.length % 2 = 1
 ·rw [if_pos hl, aEI s L i hi h1 h2]
  by_cases hc : i < L.length ∧ L.getD i ⟨#[]⟩ = s
  ·rw [if_pos hc, if_pos (.inl hc)]
  ·rw [if_neg hc, if_neg (fun h => h.elim hc (fun h => h hl)), List.append_assoc]
   rfl
 ·rw [if_neg hl, if_pos (.inr hl)]
set_option maxHeartbeats 40000000 in
theorem aH6 (w : World) (B : Nat) (av ao : Option Addr) (nv cv no co : Nat) (xs : List Int) (l : List aA) (h : bP w B ao no l) (hB : B ≤ w.heap.size) (hn : no ≤ 1048576) (hc : aE xs l = true) :
  Calls Tryz.prog 115 #[.agg #[.slice av nv cv, .slice ao no co]] w (aOb (bU l l.length) w) := by
 obtain rfl := h.1
 have HC := aPo hc
 clear hc
 have bD : Below w.heap.size w (w.alloc (.cells #[.slice av nv cv, .slice ao l.length co] 27)) := (Below.refl _ w).alloc aPq _
 have HO := aPo (h.below bD hB)
 have HB := aPo bD
 have HX := aPo (bX (Below.refl _ (w.alloc (.cells #[.slice av nv cv, .slice ao l.length co] 27))))
 have dC : (w.alloc (.cells #[.slice av nv cv, .slice ao l.length co] 27)).heap.size = w.heap.size + 1 := by show (w.heap.push _).size = _; simp
 clear h bD
 go_enter Tryz.func115, Tryz.ntmps115
 go_wp2
 obtain ⟨w0, hw0⟩ : ∃ w0, w0 = w.alloc (.cells #[.slice av nv cv, .slice ao l.length co] 27) := ⟨_, rfl⟩
 rw [← hw0] at HO HB HX dC ⊢
 clear hw0
 have nP := World.ownsRow_made (e := 9) (size := 1) (base := w.heap.size + 1) w0 #[] 0 (by omega) (by unfold maxLen; omega) rfl
 rw [dC] at nP
 have oV := aPo nP
 have HW0 : Hid (Below (w.heap.size + 1) w0 (w0.alloc (.cells #[] 9))) := (Below.refl _ _).alloc (by omega) _
 have rH : w0.heap.size ≤ w.heap.size + 1 := by omega
 have aNr : w.heap.size + 1 ≤ w0.heap.size := by omega
 clear dC nP
 go_loopw [3, 4] (fun v i wr => ∃ (k : Nat) (L : List ByteArray) (g c : Nat), k ≤ l.length ∧ i = .int .i64 (k : Int) ∧ v = .slice (some ⟨g, 0, none⟩) L.length c ∧ Hid (L.length ≤ k) ∧ Hid (bU l k = L) ∧ Hid (wr.ownsRow (w.heap.size + 1) 9 1 (.slice (some ⟨g, 0, none⟩) L.length c) L.length (L.map Value.string)) ∧ Hid (Below (w.heap.size + 1) w0 wr)) (fun _ i _ => l.length - (intOf i).toNat)
 case atStart => exact ⟨0, [], _, _, Nat.zero_le _, rfl, rfl, Nat.le_refl _, rfl, oV.out, HW0.out⟩
 case round =>
  obtain ⟨k, L, g, c, hk, rfl, rfl, uB, HLt, HR, cW⟩ := hrel; have hLk : L.length ≤ l.length := Nat.le_trans uB.out hk; have tU := cW.out.size; have jJ : L.length ≤ c := (gA HR.out).1; have cD := aPo ((cW.out.block w.heap.size (by omega)).trans HX.out)
  obtain ⟨c0, c1⟩ := pair_cells cD.out
  by_cases aJ : k < l.length
  ·obtain ⟨b, off, rfl, hb, ho⟩ := (HO.out.below cW.out (by omega)).2 k aJ
   have hki : (k : Int) < (l.length : Int) := by omega
   have c4 := ho.2.2.2.2.1; obtain ⟨s, hs⟩ : ∃ s, s = (l.getD k aA.zero).item := ⟨_, rfl⟩; rw [← hs] at c4; have lL : Hid (s = (aC l k).item) := hs; have zK := aPo (pA HR.out); clear ho hs
   go_upto_block 2 with fail
   clear c4 c0 c1
   go_cut [6] from 9 to 67 (fun j wx => wx = wr ∧ ∃ i : Nat, i ≤ L.length ∧ j = .int .i64 (i : Int) ∧ Hid (∀ q, q < i → pI (L.getD q ⟨#[]⟩) s = true) ∧ Hid (i < L.length → pI (L.getD i ⟨#[]⟩) s = false))
   case first =>
    go_wp2
    go_loop [6] (fun j => ∃ i : Nat, i ≤ L.length ∧ j = .int .i64 (i : Int) ∧ Hid (∀ q, q < i → pI (L.getD q ⟨#[]⟩) s = true)) (fun j => L.length - (intOf j).toNat)
    case atStart => exact ⟨0, Nat.zero_le _, rfl, fun q hq => absurd hq (by omega)⟩
    case round =>
     obtain ⟨i, hi, rfl, G8⟩ := hrel
     by_cases qH : i < L.length
     ·obtain ⟨b2, o2, e2, aM, nI⟩ := zK.out.2 i qH
      injection e2 with e2; injection e2 with e3 e4; subst e3 e4; rw [Nat.zero_add] at nI; obtain ⟨x, hx⟩ : ∃ x, x = L.getD i ⟨#[]⟩ := ⟨_, rfl⟩; rw [← hx] at nI; have hii : (i : Int) < (L.length : Int) := by omega
      have HXx := aPo hx; clear hx; rcases hl : Op.bytesLess x.toList s.toList with _ | _
      ·have HF : Hid (i < L.length → pI (L.getD i ⟨#[]⟩) s = false) := fun _ => by rw [← HXx.out]; exact (aB2 _ _).symm.trans hl
       go_wp2
       go_meet
       exact ⟨rfl, i, hi, rfl, G8, HF⟩
      ·have HS : Hid (∀ q, q < i + 1 → pI (L.getD q ⟨#[]⟩) s = true) := fun q hq => by
        rcases Nat.lt_or_ge q i with h1 | h1
        ·exact G8.out q h1
        ·obtain rfl : q = i := by omega
         rw [← HXx.out]; exact (aB2 _ _).symm.trans hl
       go_wp2
       exact ⟨⟨i + 1, by omega, by go_num, HS⟩, by simp [intOf]; omega⟩
     ·have HF : Hid (i < L.length → pI (L.getD i ⟨#[]⟩) s = false) := fun h => absurd h qH
      go_wp2
      go_meet
      exact ⟨rfl, i, hi, rfl, G8, HF⟩
   case rest =>
    obtain ⟨hwc, i, hi, rfl, G8, HFe⟩ := hcut; subst hwc; obtain ⟨c0, c1⟩ := pair_cells cD.out
    go_upto_region 9 with fail
    have j1 := aPo (aFd aJ HLt.out lL.out hi G8.out HFe.out)
    go_cut [53] from 9 to 67 (fun bv wx => (∃ bb : Bool, bv = .bool bb ∧ Hid (bU l (k + 1) = if bb = true then L else L.take i ++ [s] ++ L.drop i)) ∧ Hid (Below wc.heap.size wc wx))
    case first =>
     by_cases qH : i < L.length
     ·obtain ⟨b2, o2, e2, aM, nI⟩ := zK.out.2 i qH
      injection e2 with e2; injection e2 with e3 e4; subst e3 e4; rw [Nat.zero_add] at nI; obtain ⟨x, hx⟩ : ∃ x, x = L.getD i ⟨#[]⟩ := ⟨_, rfl⟩; rw [← hx] at nI; have hii : (i : Int) < (L.length : Int) := by omega
      by_cases mV : (x.toList == s.toList) = true
      ·have HE : Hid (bU l (k + 1) = if true = true then L else L.take i ++ [s] ++ L.drop i) := by
        show _ = L
        rw [j1.out, if_pos (.inl ⟨qH, by rw [← hx]; exact aEX (by simpa using mV)⟩)]
       clear hx; go_wp2
       go_meet
       exact ⟨⟨_, rfl, HE⟩, Below.refl _ _⟩
      ·have aNj : (x.toList == s.toList) = false := by simpa using mV
       have HE : Hid (∀ b : Bool, decide (aI s l l.length % 2 = 1) = b → bU l (k + 1) = if (!b) = true then L else L.take i ++ [s] ++ L.drop i) := by
        intro b hb
        rw [j1.out]; have h1 : ¬ (i < L.length ∧ L.getD i ⟨#[]⟩ = s) := fun h => mV (by rw [hx, h.2]; exact beq_self_eq_true _)
        cases b
        ·rw [if_pos (.inr (of_decide_eq_false hb))]; rfl
        ·rw [if_neg (fun h => h.elim h1 (fun h => h (of_decide_eq_true hb)))]; rfl
       clear mV hx
       go_wp2_with fail
       refine (X8 wc B av _ nv cv l.length co xs l s (HO.out.below cW.out (by omega)) (by omega) hn HC.out).mono ?_
       rintro e w2 ⟨rfl, aV⟩; obtain ⟨tb, htb⟩ : ∃ b, decide (aI s l l.length % 2 = 1) = b := ⟨_, rfl⟩; have HTb := aPo (HE.out tb htb); rw [htb]; clear htb; go_wp2
       all_goals (go_meet; exact ⟨⟨_, rfl, HTb⟩, aV⟩)
     ·have HE : Hid (∀ b : Bool, decide (aI s l l.length % 2 = 1) = b → bU l (k + 1) = if (!b) = true then L else L.take i ++ [s] ++ L.drop i) := by
       intro b hb
       rw [j1.out]; cases b
       ·rw [if_pos (.inr (of_decide_eq_false hb))]; rfl
       ·rw [if_neg (fun h => h.elim (fun h => qH h.1) (fun h => h (of_decide_eq_true hb)))]; rfl
      go_wp2_with fail
      refine (X8 wc B av _ nv cv l.length co xs l s (HO.out.below cW.out (by omega)) (by omega) hn HC.out).mono ?_
      rintro e w2 ⟨rfl, aV⟩; obtain ⟨tb, htb⟩ : ∃ b, decide (aI s l l.length % 2 = 1) = b := ⟨_, rfl⟩; have HTb := aPo (HE.out tb htb); rw [htb]; clear htb; go_wp2
      all_goals (go_meet; exact ⟨⟨_, rfl, HTb⟩, aV⟩)
    case rest =>
     obtain ⟨⟨bb, rfl, HBb⟩, HW⟩ := hcut; clear c0 c1; have hw2 := HW.out.size; have bT := aPo (cW.out.trans (HW.out.mono (by omega)))
     have lM : Hid (wc.ownsRow (w.heap.size + 1) 9 1 (.slice (some ⟨g, 0, none⟩) L.length c) L.length (L.map Value.string)) := HR.out.kept (row := none) ⟨HW.out.os, HW.out.tape, HW.out.output, HW.out.size, fun j hj _ => HW.out.block j hj⟩ (.inr (by simp [Value.ownBlock]))
     have HS2 := aPo (pA lM.out); cases bb
     ·have aNS : i ≤ c := by omega
      have bD : Below wc.heap.size wc (wc.alloc (.cells #[] 9)) := bl; have nP : (wc.alloc (.cells #[] 9)).ownsRow wc.heap.size 9 1 (.slice (some ⟨wc.heap.size, 0, none⟩) 0 0) 0 (([] : List ByteArray).map Value.string) := World.ownsRow_made wc #[] 0 aPq (by unfold maxLen; omega) rfl
      have hTk := (HS2.out.below bD aPq).take hi
      go_upto_region 10 with fail
      by_cases hci : i = c
      ·obtain rfl : i = c := hci
       have hiL : L.length ≤ i := by omega
       obtain ⟨v1, w3, nA, cX, nH⟩ := kS _ wc.heap.size _ 0 [] nP (wc.heap.size) (some ⟨g, 0, none⟩) i i (L.take i) hTk (fun h => by cases h) (by omega) bD.size
       have kL : w3.ownsRow wc.heap.size 9 1 v1 i ((L.take i).map Value.string) := by simpa using cX
       have pS : Below wc.heap.size wc w3 := bD.grown nH bD.size (fun j hj => (nP.lt j hj).1)
       clear cX nH nP; have fA : Below wc.heap.size w3 (w3.alloc (.cells #[.string s] 9)) := (Below.refl _ _).alloc pS.size _; have nJ : gZ (w3.alloc (.cells #[.string s] 9)) (w3.heap.size + 1) (some ⟨w3.heap.size, 0, none⟩) 1 [s] := yE w3 s; have kZ := kL.alloc (.cells #[.string s] 9); obtain ⟨v2, w4, mZ, dU, nG⟩ := kS _ wc.heap.size v1 i (L.take i) kZ (w3.heap.size + 1) (some ⟨w3.heap.size, 0, none⟩) 1 1 [s] nJ (fun h => by cases h) (by omega) (Nat.le_trans pS.size fA.size)
       have mC : Below wc.heap.size wc w4 := pS.trans (fA.grown nG (Nat.le_trans pS.size fA.size) (fun j hj => (kZ.lt j hj).1))
       have T4 : gZ w4 wc.heap.size (some ⟨g, 0, none⟩) 0 (L.drop i) := ⟨by rw [List.length_drop]; omega, fun j hj => absurd hj (by omega)⟩
       obtain ⟨v3, w5, mY, lI, nF⟩ := kS w4 wc.heap.size v2 (i + 1) _ dU wc.heap.size (some ⟨g, 0, none⟩) 0 0 (L.drop i) T4 (fun h => by cases h) (by omega) mC.size
       have T7 : Below wc.heap.size wc w5 := mC.grown nF mC.size (fun j hj => (dU.lt j hj).1)
       obtain ⟨g5, c5, rfl⟩ : ∃ g5 c5, v3 = .slice (some ⟨g5, 0, none⟩) (i + 1 + 0) c5 := by
        rcases lI.2 with ⟨_, e2⟩ | ⟨g5, c5, _, e2, _⟩
        ·omega
        ·exact ⟨g5, c5, e2⟩
       have lA : (L.take i ++ [s] ++ L.drop i).length = i + 1 + 0 := by simp; omega
       have i8 : Hid (w5.ownsRow (w.heap.size + 1) 9 1 (.slice (some ⟨g5, 0, none⟩) (i + 1 + 0) c5) (i + 1 + 0) ((L.take i ++ [s] ++ L.drop i).map Value.string)) := I3 lI (by omega)
       have oX : Hid (Below (w.heap.size + 1) w0 w5) := bT.out.trans (T7.mono (by omega))
       have HL5 : Hid ((L.take i ++ [s] ++ L.drop i).length ≤ k + 1) := by have := uB.out; show _ ≤ _; rw [lA]; omega
       have i7 : Hid (bU l (k + 1) = L.take i ++ [s] ++ L.drop i) := HBb.out; clear kL dU lI nG nF pS mC T7 fA nJ kZ T4
       go_upto_region 11 with (at_builtin; refine cY rfl _ _ _ rfl _ _ rfl rfl nA ?_)
       go_upto_region 12 with (at_builtin; refine cY rfl _ _ _ rfl _ _ rfl rfl mZ ?_)
       go_upto_region 4 with (at_builtin; refine cY rfl _ _ _ rfl _ _ rfl rfl mY ?_)
       go_wp2
       go_roundw
       case rel => exact ⟨k + 1, L.take i ++ [s] ++ L.drop i, g5, c5, by omega, by go_num, by first | rw [lA] | (rw [lA]; rfl), HL5, i7, by rw [lA]; exact i8, oX⟩
       case measure => simp [intOf]; omega
      ·have nI : ¬ (c : Int) = (i : Int) := by omega
       obtain ⟨v1, w3, nA, cX, nH⟩ := kS _ wc.heap.size _ 0 [] nP (wc.heap.size) (some ⟨g, 0, none⟩) i c (L.take i) hTk (fun h => by cases h) (by omega) bD.size
       have kL : w3.ownsRow wc.heap.size 9 1 v1 i ((L.take i).map Value.string) := by simpa using cX
       have pS : Below wc.heap.size wc w3 := bD.grown nH bD.size (fun j hj => (nP.lt j hj).1)
       clear cX nH nP; have fA : Below wc.heap.size w3 (w3.alloc (.cells #[.string s] 9)) := (Below.refl _ _).alloc pS.size _; have nJ : gZ (w3.alloc (.cells #[.string s] 9)) (w3.heap.size + 1) (some ⟨w3.heap.size, 0, none⟩) 1 [s] := yE w3 s; have kZ := kL.alloc (.cells #[.string s] 9); obtain ⟨v2, w4, mZ, dU, nG⟩ := kS _ wc.heap.size v1 i (L.take i) kZ (w3.heap.size + 1) (some ⟨w3.heap.size, 0, none⟩) 1 1 [s] nJ (fun h => by cases h) (by omega) (Nat.le_trans pS.size fA.size)
       have mC : Below wc.heap.size wc w4 := pS.trans (fA.grown nG (Nat.le_trans pS.size fA.size) (fun j hj => (kZ.lt j hj).1))
       have T4 : gZ w4 wc.heap.size (some ⟨g, i, none⟩) (L.length - i) (L.drop i) := ((HS2.out.below mC aPq).drop hi); obtain ⟨v3, w5, mY, lI, nF⟩ := kS w4 wc.heap.size v2 (i + 1) _ dU wc.heap.size (some ⟨g, i, none⟩) (L.length - i) (c - i) (L.drop i) T4 (fun h => by cases h) (by omega) mC.size
       have T7 : Below wc.heap.size wc w5 := mC.grown nF mC.size (fun j hj => (dU.lt j hj).1)
       obtain ⟨g5, c5, rfl⟩ : ∃ g5 c5, v3 = .slice (some ⟨g5, 0, none⟩) (i + 1 + (L.length - i)) c5 := by
        rcases lI.2 with ⟨_, e2⟩ | ⟨g5, c5, _, e2, _⟩
        ·omega
        ·exact ⟨g5, c5, e2⟩
       have lA : (L.take i ++ [s] ++ L.drop i).length = i + 1 + (L.length - i) := by simp; omega
       have i8 : Hid (w5.ownsRow (w.heap.size + 1) 9 1 (.slice (some ⟨g5, 0, none⟩) (i + 1 + (L.length - i)) c5) (i + 1 + (L.length - i)) ((L.take i ++ [s] ++ L.drop i).map Value.string)) := I3 lI (by omega)
       have oX : Hid (Below (w.heap.size + 1) w0 w5) := bT.out.trans (T7.mono (by omega))
       have HL5 : Hid ((L.take i ++ [s] ++ L.drop i).length ≤ k + 1) := by have := uB.out; show _ ≤ _; rw [lA]; omega
       have i7 : Hid (bU l (k + 1) = L.take i ++ [s] ++ L.drop i) := HBb.out; clear kL dU lI nG nF pS mC T7 fA nJ kZ T4
       go_upto_region 11 with (at_builtin; refine cY rfl _ _ _ rfl _ _ rfl rfl nA ?_)
       go_upto_region 12 with (at_builtin; refine cY rfl _ _ _ rfl _ _ rfl rfl mZ ?_)
       go_upto_region 4 with (at_builtin; refine cY rfl _ _ _ rfl _ _ rfl rfl mY ?_)
       go_wp2
       go_roundw
       case rel => exact ⟨k + 1, L.take i ++ [s] ++ L.drop i, g5, c5, by omega, by go_num, by first | rw [lA] | (rw [lA]; rfl), HL5, i7, by rw [lA]; exact i8, oX⟩
       case measure => simp [intOf]; omega
     ·go_upto_region 4 with fail
      go_wp2
      go_roundw
      case rel => exact ⟨k + 1, L, g, c, by omega, by go_num, rfl, Nat.le_succ_of_le uB.out, HBb, lM, bT⟩
      case measure => simp [intOf]; omega
  ·obtain rfl : k = l.length := by omega
   have zK := aPo ((aK5 HR.out).more (Nat.le_succ _) aPq); have HZ := aPo (HB.out.trans (cW.out.mono (by omega)))
   go_wp2
   go_ret
   exact ⟨g, c, by rw [HLt.out]; rfl, by rw [HLt.out]; exact zK.out, HZ.out⟩
def aB4 (L : List ByteArray) (w : World) (e : Ending) (w' : World) : Prop := ∃ a c, e = .returned (.slice a L.length c) ∧ eV w' w.heap.size w'.heap.size a L.length L ∧ Below w.heap.size w w'
theorem eV.grown {w w' : World} {lo hi base m : Nat} {a : Option Addr} {n : Nat} {l : List ByteArray} {v : Value} {xs : List Value} (h : eV w lo hi a n l) (hr : w.ownsRow base 39 3 v m xs) (hg : w.grownBy w' v.ownBlock) : eV w' lo hi a n l :=
 ⟨h.1, fun hn => by
  obtain ⟨g, off, cs, e, h1, h2, hb, r⟩ := h.2 hn; refine ⟨g, off, cs, e, h1, h2, (hg.block g (aPp hb).1 (fun e' => ?_)).trans hb, r⟩
  rcases hr.2 with ⟨e2, _⟩ | ⟨g', c, aW, e2, _, hg', _⟩
  ·rw [e2] at e'
   cases e'
  ·rw [e2] at e'
   have : g = g' := by simpa [Value.ownBlock] using e'
   subst this; rw [hb] at hg'; injection hg' with hg'; injection hg' with _ ht _; exact absurd ht (by decide)⟩
theorem sQ {xs : List Int} {l : List aA} : (cF xs l).length ≤ 160 := by
 unfold cF
 split
 ·rename_i h
  exact Nat.le_trans (vB l _) (eF h)
 ·simp
theorem aFf {xs : List Int} {l : List aA} {x : ByteArray} (h : x ∈ cF xs l) : aE xs l = true ∧ ∃ i, i < l.length ∧ (l.getD i aA.zero).item = x := by
 unfold cF at h
 split at h
 ·rename_i hc
  obtain ⟨_, i, hi, e⟩ := (mP l x _).1 h; exact ⟨hc, i, hi, e⟩
 ·cases h
theorem aGm {o : aA} (h : o.ok = true) : 0 ≤ o.qty ∧ o.qty ≤ 999 := by
 have h' : dM o.dev o.seq o.stamp o.kind o.item o.qty o.level o.undos = true := h
 unfold dM H9 at h'
 simp only [Bool.and_eq_true] at h'
 obtain ⟨_, _, hq, _⟩ := h'
 unfold qB at hq
 split at hq
 ·have := gJ.1 hq; omega
 ·have := of_decide_eq_true hq; omega
theorem I8 {xs : List Int} {l : List aA} {k : Nat} (hk : k < (aZ xs l).length) : 0 ≤ ((aZ xs l).getD k aS.zero).qty ∧ ((aZ xs l).getD k aS.zero).qty ≤ 999 := by
 have hm : (aZ xs l).getD k aS.zero ∈ aZ xs l := by
  rw [List.getD_eq_getElem?_getD, List.getElem?_eq_getElem hk]; exact List.getElem_mem hk
 generalize (aZ xs l).getD k aS.zero = y at hm ⊢
 unfold aZ at hm
 obtain ⟨x, hx, rfl⟩ := List.mem_map.1 hm
 obtain ⟨hc, _⟩ := aFf hx
 show 0 ≤ (bE tB x l l.length).qty ∧ (bE tB x l l.length).qty ≤ 999
 rcases E1 tB x l l.length with h | ⟨i, hi, h⟩
 ·rw [h]; decide
 ·rw [h]
  exact aGm (eU hc hi)
def lS (L : List aS) : Nat → Int
 | 0 => 0
 | k + 1 => if (L.getD k aS.zero).saved = true then lS L k else lS L k + (L.getD k aS.zero).qty
theorem D5 {L : List aS} (h : ∀ k, k < L.length → 0 ≤ (L.getD k aS.zero).qty ∧ (L.getD k aS.zero).qty ≤ 999) : ∀ k, k ≤ L.length → 0 ≤ lS L k ∧ lS L k ≤ 999 * (k : Int)
 | 0, _ => by simp [lS]
 | k + 1, hk => by
  have ih := D5 h k (by omega)
  have hq := h k (by omega)
  rw [lS]
  split <;> omega
def xX (xs : List Int) (l : List aA) : Int := lS (aZ xs l) (aZ xs l).length
theorem aEV (L : List aS) (k : Nat) : lS L (k + 1) = if (L.getD k aS.zero).saved = true then lS L k else lS L k + (L.getD k aS.zero).qty := rfl
theorem pK (xs : List Int) (l : List aA) : Asc (cF xs l) := by
 unfold cF
 split
 ·exact qP l _
 ·exact List.Pairwise.nil
theorem aCI (xs : List Int) (l : List aA) {i : Nat} (hi : i < (aZ xs l).length) : ∃ h : i < (cF xs l).length, (aZ xs l).getD i aS.zero = cG l ((cF xs l).getD i ⟨#[]⟩) := by
 have hi2 : i < (cF xs l).length := by unfold aZ at hi; rwa [List.length_map] at hi
 refine ⟨hi2, ?_⟩
 unfold aZ
 rw [List.getD_eq_getElem?_getD, List.getElem?_map, List.getElem?_eq_getElem hi2, List.getD_eq_getElem?_getD, List.getElem?_eq_getElem hi2]
 rfl
end Go.Proofs.YthkagbnpcjidfaaGreatDoor
