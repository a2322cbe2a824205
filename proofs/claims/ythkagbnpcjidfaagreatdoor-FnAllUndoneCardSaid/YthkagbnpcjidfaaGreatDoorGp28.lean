/- Walks and mathematics that several claims share, part 28. -/
import Derived.Test.YthkagbnpcjidfaaGreatDoorGp27
import Derived.Test.YthkagbnpcjidfaaGreatDoorGp26
import Derived.Sort.Walk0
import Derived.Deep.CutRange
import Derived.Deep.CutBlock
import Derived.Deep.Cut
namespace Go.Proofs.YthkagbnpcjidfaaGreatDoor
set_option maxRecDepth 100000
open Go.RowKit
set_option linter.unusedVariables false
set_option linter.unusedSimpArgs false
theorem aB0 (a b : ByteArray) : Op.bytesLess a.toList b.toList = pH a b := bytesLess_eq _ _
def aOc (L : List ByteArray) (w : World) (e : Ending) (w' : World) : Prop :=
 ∃ g c, e = .returned (.slice (some ⟨g, 0, none⟩) L.length c) ∧ fD w' w.heap.size w'.heap.size (some ⟨g, 0, none⟩) L.length L ∧ Below w.heap.size w w'
theorem aKY {w : World} {base n c : Nat} {a : Option Addr} {L : List ByteArray} (h : w.ownsRow base 9 1 (.slice a n c) n (L.map Value.string)) : fD w base w.heap.size a n L := by
 obtain ⟨a', c', e, ho⟩ := E3 h
 injection e with e1 e2 e3
 subst e1
 exact ho
theorem aEU {l : List aA} {k i : Nat} {L : List ByteArray} {s : ByteArray} (_hk : k < l.length) (hL : bU l k = L) (hs : s = (aB l k).item) (hi : i ≤ L.length) (h1 : ∀ q, q < i → pH (L.getD q ⟨#[]⟩) s = true) (h2 : i < L.length → pH (L.getD i ⟨#[]⟩) s = false) :
  bU l (k + 1) = if (i < L.length ∧ L.getD i ⟨#[]⟩ = s) ∨ ¬ aO s l l.length % 2 = 1 then L else L.take i ++ [s] ++ L.drop i := by
 have e : (l.getD k aA.zero).item = s := hs.symm
 rw [bU, e, hL]
 by_cases hl : aO s l l.length % 2 = 1
 ·rw [if_pos hl, aEs s L i hi h1 h2]
  by_cases hc : i < L.length ∧ L.getD i ⟨#[]⟩ = s
  ·rw [if_pos hc, if_pos (.inl hc)]
  ·rw [if_neg hc, if_neg (fun h => h.elim hc (fun h => h hl)), List.append_assoc]
   rfl
 ·rw [if_neg hl, if_pos (.inr hl)]
set_option maxHeartbeats 40000000 in
theorem aHT (w : World) (B : Nat) (av ao : Option Addr) (nv cv no co : Nat) (xs : List Int) (l : List aA) (h : bK w B ao no l) (hB : B ≤ w.heap.size) (hn : no ≤ 1048576) (hc : aD xs l = true) :
  Calls Tryz.prog 115 #[.agg #[.slice av nv cv, .slice ao no co]] w (aOc (bU l l.length) w) := by
 obtain rfl := h.1
 have HC := aPu hc
 clear hc
 have bC : Below w.heap.size w (w.alloc (.cells #[.slice av nv cv, .slice ao l.length co] 27)) := (Below.refl _ w).alloc aPw _
 have HO := aPu (h.below bC hB)
 have HB := aPu bC
 have HX := aPu (bE (Below.refl _ (w.alloc (.cells #[.slice av nv cv, .slice ao l.length co] 27))))
 have cP : (w.alloc (.cells #[.slice av nv cv, .slice ao l.length co] 27)).heap.size = w.heap.size + 1 := by show (w.heap.push _).size = _; simp
 clear h bC
 go_enter Tryz.func115, Tryz.ntmps115
 go_wp2
 obtain ⟨w0, hw0⟩ : ∃ w0, w0 = w.alloc (.cells #[.slice av nv cv, .slice ao l.length co] 27) := ⟨_, rfl⟩
 rw [← hw0] at HO HB HX cP ⊢
 clear hw0
 have nO := World.ownsRow_made (e := 9) (size := 1) (base := w.heap.size + 1) w0 #[] 0 (by omega) (by unfold maxLen; omega) rfl
 rw [cP] at nO
 have pA := aPu nO
 have HW0 : Hid (Below (w.heap.size + 1) w0 (w0.alloc (.cells #[] 9))) := (Below.refl _ _).alloc (by omega) _
 have qG : w0.heap.size ≤ w.heap.size + 1 := by omega
 have aNC : w.heap.size + 1 ≤ w0.heap.size := by omega
 clear cP nO
 go_loopw [3, 4] (fun v i wr => ∃ (k : Nat) (L : List ByteArray) (g c : Nat), k ≤ l.length ∧ i = .int .i64 (k : Int) ∧ v = .slice (some ⟨g, 0, none⟩) L.length c ∧ Hid (L.length ≤ k) ∧ Hid (bU l k = L) ∧ Hid (wr.ownsRow (w.heap.size + 1) 9 1 (.slice (some ⟨g, 0, none⟩) L.length c) L.length (L.map Value.string)) ∧ Hid (Below (w.heap.size + 1) w0 wr)) (fun _ i _ => l.length - (intOf i).toNat)
 case atStart => exact ⟨0, [], _, _, Nat.zero_le _, rfl, rfl, Nat.le_refl _, rfl, pA.out, HW0.out⟩
 case round =>
  obtain ⟨k, L, g, c, hk, rfl, rfl, qD, HLt, HR, cS⟩ := hrel; have hLk : L.length ≤ l.length := Nat.le_trans qD.out hk; have uG := cS.out.size; have jO : L.length ≤ c := (gB HR.out).1; have cC := aPu ((cS.out.block w.heap.size (by omega)).trans HX.out)
  obtain ⟨c0, c1⟩ := pair_cells cC.out
  by_cases aK : k < l.length
  ·obtain ⟨b, off, rfl, hb, ho⟩ := (HO.out.below cS.out (by omega)).2 k aK
   have hki : (k : Int) < (l.length : Int) := by omega
   have c4 := ho.2.2.2.2.1; obtain ⟨s, hs⟩ : ∃ s, s = (l.getD k aA.zero).item := ⟨_, rfl⟩; rw [← hs] at c4; have lJ : Hid (s = (aB l k).item) := hs; have zD := aPu (pB HR.out); clear ho hs
   go_upto_block 2 with fail
   clear c4 c0 c1
   go_cut [6] from 9 to 67 (fun j wx => wx = wr ∧ ∃ i : Nat, i ≤ L.length ∧ j = .int .i64 (i : Int) ∧ Hid (∀ q, q < i → pH (L.getD q ⟨#[]⟩) s = true) ∧ Hid (i < L.length → pH (L.getD i ⟨#[]⟩) s = false))
   case first =>
    go_wp2
    go_loop [6] (fun j => ∃ i : Nat, i ≤ L.length ∧ j = .int .i64 (i : Int) ∧ Hid (∀ q, q < i → pH (L.getD q ⟨#[]⟩) s = true)) (fun j => L.length - (intOf j).toNat)
    case atStart => exact ⟨0, Nat.zero_le _, rfl, fun q hq => absurd hq (by omega)⟩
    case round =>
     obtain ⟨i, hi, rfl, O1⟩ := hrel
     by_cases pY : i < L.length
     ·obtain ⟨b2, o2, e2, aG, nD⟩ := zD.out.2 i pY
      injection e2 with e2; injection e2 with e3 e4; subst e3 e4; rw [Nat.zero_add] at nD; obtain ⟨x, hx⟩ : ∃ x, x = L.getD i ⟨#[]⟩ := ⟨_, rfl⟩; rw [← hx] at nD; have hii : (i : Int) < (L.length : Int) := by omega
      have HXx := aPu hx; clear hx; rcases hl : Op.bytesLess x.toList s.toList with _ | _
      ·have HF : Hid (i < L.length → pH (L.getD i ⟨#[]⟩) s = false) := fun _ => by rw [← HXx.out]; exact (aB0 _ _).symm.trans hl
       go_wp2
       go_meet
       exact ⟨rfl, i, hi, rfl, O1, HF⟩
      ·have HS : Hid (∀ q, q < i + 1 → pH (L.getD q ⟨#[]⟩) s = true) := fun q hq => by
        rcases Nat.lt_or_ge q i with h1 | h1
        ·exact O1.out q h1
        ·obtain rfl : q = i := by omega
         rw [← HXx.out]; exact (aB0 _ _).symm.trans hl
       go_wp2
       exact ⟨⟨i + 1, by omega, by go_num, HS⟩, by simp [intOf]; omega⟩
     ·have HF : Hid (i < L.length → pH (L.getD i ⟨#[]⟩) s = false) := fun h => absurd h pY
      go_wp2
      go_meet
      exact ⟨rfl, i, hi, rfl, O1, HF⟩
   case rest =>
    obtain ⟨hwc, i, hi, rfl, O1, HFe⟩ := hcut; subst hwc; obtain ⟨c0, c1⟩ := pair_cells cC.out
    go_upto_region 9 with fail
    have j7 := aPu (aEU aK HLt.out lJ.out hi O1.out HFe.out)
    go_cut [53] from 9 to 67 (fun bv wx => (∃ bb : Bool, bv = .bool bb ∧ Hid (bU l (k + 1) = if bb = true then L else L.take i ++ [s] ++ L.drop i)) ∧ Hid (Below wc.heap.size wc wx))
    case first =>
     by_cases pY : i < L.length
     ·obtain ⟨b2, o2, e2, aG, nD⟩ := zD.out.2 i pY
      injection e2 with e2; injection e2 with e3 e4; subst e3 e4; rw [Nat.zero_add] at nD; obtain ⟨x, hx⟩ : ∃ x, x = L.getD i ⟨#[]⟩ := ⟨_, rfl⟩; rw [← hx] at nD; have hii : (i : Int) < (L.length : Int) := by omega
      by_cases mJ : (x.toList == s.toList) = true
      ·have HE : Hid (bU l (k + 1) = if true = true then L else L.take i ++ [s] ++ L.drop i) := by
        show _ = L
        rw [j7.out, if_pos (.inl ⟨pY, by rw [← hx]; exact aJm (by simpa using mJ)⟩)]
       clear hx; go_wp2
       go_meet
       exact ⟨⟨_, rfl, HE⟩, Below.refl _ _⟩
      ·have aNu : (x.toList == s.toList) = false := by simpa using mJ
       have HE : Hid (∀ b : Bool, decide (aO s l l.length % 2 = 1) = b → bU l (k + 1) = if (!b) = true then L else L.take i ++ [s] ++ L.drop i) := by
        intro b hb
        rw [j7.out]; have h1 : ¬ (i < L.length ∧ L.getD i ⟨#[]⟩ = s) := fun h => mJ (by rw [hx, h.2]; exact beq_self_eq_true _)
        cases b
        ·rw [if_pos (.inr (of_decide_eq_false hb))]; rfl
        ·rw [if_neg (fun h => h.elim h1 (fun h => h (of_decide_eq_true hb)))]; rfl
       clear mJ hx
       go_wp2_with fail
       refine (X9 wc B av _ nv cv l.length co xs l s (HO.out.below cS.out (by omega)) (by omega) hn HC.out).mono ?_
       rintro e w2 ⟨rfl, aR⟩; obtain ⟨tb, htb⟩ : ∃ b, decide (aO s l l.length % 2 = 1) = b := ⟨_, rfl⟩; have HTb := aPu (HE.out tb htb); rw [htb]; clear htb; go_wp2
       all_goals (go_meet; exact ⟨⟨_, rfl, HTb⟩, aR⟩)
     ·have HE : Hid (∀ b : Bool, decide (aO s l l.length % 2 = 1) = b → bU l (k + 1) = if (!b) = true then L else L.take i ++ [s] ++ L.drop i) := by
       intro b hb
       rw [j7.out]; cases b
       ·rw [if_pos (.inr (of_decide_eq_false hb))]; rfl
       ·rw [if_neg (fun h => h.elim (fun h => pY h.1) (fun h => h (of_decide_eq_true hb)))]; rfl
      go_wp2_with fail
      refine (X9 wc B av _ nv cv l.length co xs l s (HO.out.below cS.out (by omega)) (by omega) hn HC.out).mono ?_
      rintro e w2 ⟨rfl, aR⟩; obtain ⟨tb, htb⟩ : ∃ b, decide (aO s l l.length % 2 = 1) = b := ⟨_, rfl⟩; have HTb := aPu (HE.out tb htb); rw [htb]; clear htb; go_wp2
      all_goals (go_meet; exact ⟨⟨_, rfl, HTb⟩, aR⟩)
    case rest =>
     obtain ⟨⟨bb, rfl, HBb⟩, HW⟩ := hcut; clear c0 c1; have hw2 := HW.out.size; have bP := aPu (cS.out.trans (HW.out.mono (by omega)))
     have kP : Hid (wc.ownsRow (w.heap.size + 1) 9 1 (.slice (some ⟨g, 0, none⟩) L.length c) L.length (L.map Value.string)) := HR.out.kept (row := none) ⟨HW.out.os, HW.out.tape, HW.out.output, HW.out.size, fun j hj _ => HW.out.block j hj⟩ (.inr (by simp [Value.ownBlock]))
     have HS2 := aPu (pB kP.out); cases bb
     ·have aNV : i ≤ c := by omega
      have bC : Below wc.heap.size wc (wc.alloc (.cells #[] 9)) := bl; have nO : (wc.alloc (.cells #[] 9)).ownsRow wc.heap.size 9 1 (.slice (some ⟨wc.heap.size, 0, none⟩) 0 0) 0 (([] : List ByteArray).map Value.string) := World.ownsRow_made wc #[] 0 aPw (by unfold maxLen; omega) rfl
      have hTk := (HS2.out.below bC aPw).take hi
      go_upto_region 10 with fail
      by_cases hci : i = c
      ·obtain rfl : i = c := hci
       have hiL : L.length ≤ i := by omega
       obtain ⟨v1, w3, mS, cV, nC⟩ := lN _ wc.heap.size _ 0 [] nO (wc.heap.size) (some ⟨g, 0, none⟩) i i (L.take i) hTk (fun h => by cases h) (by omega) bC.size
       have kI : w3.ownsRow wc.heap.size 9 1 v1 i ((L.take i).map Value.string) := by simpa using cV
       have pO : Below wc.heap.size wc w3 := bC.grown nC bC.size (fun j hj => (nO.lt j hj).1)
       clear cV nC nO; have gQ : Below wc.heap.size w3 (w3.alloc (.cells #[.string s] 9)) := (Below.refl _ _).alloc pO.size _; have nF : iD (w3.alloc (.cells #[.string s] 9)) (w3.heap.size + 1) (some ⟨w3.heap.size, 0, none⟩) 1 [s] := H7 w3 s; have mW := kI.alloc (.cells #[.string s] 9); obtain ⟨v2, w4, mQ, dN, nA⟩ := lN _ wc.heap.size v1 i (L.take i) mW (w3.heap.size + 1) (some ⟨w3.heap.size, 0, none⟩) 1 1 [s] nF (fun h => by cases h) (by omega) (Nat.le_trans pO.size gQ.size)
       have lT : Below wc.heap.size wc w4 := pO.trans (gQ.grown nA (Nat.le_trans pO.size gQ.size) (fun j hj => (mW.lt j hj).1))
       have T2 : iD w4 wc.heap.size (some ⟨g, 0, none⟩) 0 (L.drop i) := ⟨by rw [List.length_drop]; omega, fun j hj => absurd hj (by omega)⟩
       obtain ⟨v3, w5, mP, mX, mZ⟩ := lN w4 wc.heap.size v2 (i + 1) _ dN wc.heap.size (some ⟨g, 0, none⟩) 0 0 (L.drop i) T2 (fun h => by cases h) (by omega) lT.size
       have T5 : Below wc.heap.size wc w5 := lT.grown mZ lT.size (fun j hj => (dN.lt j hj).1)
       obtain ⟨g5, c5, rfl⟩ : ∃ g5 c5, v3 = .slice (some ⟨g5, 0, none⟩) (i + 1 + 0) c5 := by
        rcases mX.2 with ⟨_, e2⟩ | ⟨g5, c5, _, e2, _⟩
        ·omega
        ·exact ⟨g5, c5, e2⟩
       have oK : (L.take i ++ [s] ++ L.drop i).length = i + 1 + 0 := by simp; omega
       have j5 : Hid (w5.ownsRow (w.heap.size + 1) 9 1 (.slice (some ⟨g5, 0, none⟩) (i + 1 + 0) c5) (i + 1 + 0) ((L.take i ++ [s] ++ L.drop i).map Value.string)) := G9 mX (by omega)
       have oB : Hid (Below (w.heap.size + 1) w0 w5) := bP.out.trans (T5.mono (by omega))
       have HL5 : Hid ((L.take i ++ [s] ++ L.drop i).length ≤ k + 1) := by have := qD.out; show _ ≤ _; rw [oK]; omega
       have j4 : Hid (bU l (k + 1) = L.take i ++ [s] ++ L.drop i) := HBb.out; clear kI dN mX nA mZ pO lT T5 gQ nF mW T2
       go_upto_region 11 with (at_builtin; refine dB rfl _ _ _ rfl _ _ rfl rfl mS ?_)
       go_upto_region 12 with (at_builtin; refine dB rfl _ _ _ rfl _ _ rfl rfl mQ ?_)
       go_upto_region 4 with (at_builtin; refine dB rfl _ _ _ rfl _ _ rfl rfl mP ?_)
       go_wp2
       go_roundw
       case rel => exact ⟨k + 1, L.take i ++ [s] ++ L.drop i, g5, c5, by omega, by go_num, by first | rw [oK] | (rw [oK]; rfl), HL5, j4, by rw [oK]; exact j5, oB⟩
       case measure => simp [intOf]; omega
      ·have nD : ¬ (c : Int) = (i : Int) := by omega
       obtain ⟨v1, w3, mS, cV, nC⟩ := lN _ wc.heap.size _ 0 [] nO (wc.heap.size) (some ⟨g, 0, none⟩) i c (L.take i) hTk (fun h => by cases h) (by omega) bC.size
       have kI : w3.ownsRow wc.heap.size 9 1 v1 i ((L.take i).map Value.string) := by simpa using cV
       have pO : Below wc.heap.size wc w3 := bC.grown nC bC.size (fun j hj => (nO.lt j hj).1)
       clear cV nC nO; have gQ : Below wc.heap.size w3 (w3.alloc (.cells #[.string s] 9)) := (Below.refl _ _).alloc pO.size _; have nF : iD (w3.alloc (.cells #[.string s] 9)) (w3.heap.size + 1) (some ⟨w3.heap.size, 0, none⟩) 1 [s] := H7 w3 s; have mW := kI.alloc (.cells #[.string s] 9); obtain ⟨v2, w4, mQ, dN, nA⟩ := lN _ wc.heap.size v1 i (L.take i) mW (w3.heap.size + 1) (some ⟨w3.heap.size, 0, none⟩) 1 1 [s] nF (fun h => by cases h) (by omega) (Nat.le_trans pO.size gQ.size)
       have lT : Below wc.heap.size wc w4 := pO.trans (gQ.grown nA (Nat.le_trans pO.size gQ.size) (fun j hj => (mW.lt j hj).1))
       have T2 : iD w4 wc.heap.size (some ⟨g, i, none⟩) (L.length - i) (L.drop i) := ((HS2.out.below lT aPw).drop hi); obtain ⟨v3, w5, mP, mX, mZ⟩ := lN w4 wc.heap.size v2 (i + 1) _ dN wc.heap.size (some ⟨g, i, none⟩) (L.length - i) (c - i) (L.drop i) T2 (fun h => by cases h) (by omega) lT.size
       have T5 : Below wc.heap.size wc w5 := lT.grown mZ lT.size (fun j hj => (dN.lt j hj).1)
       obtain ⟨g5, c5, rfl⟩ : ∃ g5 c5, v3 = .slice (some ⟨g5, 0, none⟩) (i + 1 + (L.length - i)) c5 := by
        rcases mX.2 with ⟨_, e2⟩ | ⟨g5, c5, _, e2, _⟩
        ·omega
        ·exact ⟨g5, c5, e2⟩
       have oK : (L.take i ++ [s] ++ L.drop i).length = i + 1 + (L.length - i) := by simp; omega
       have j5 : Hid (w5.ownsRow (w.heap.size + 1) 9 1 (.slice (some ⟨g5, 0, none⟩) (i + 1 + (L.length - i)) c5) (i + 1 + (L.length - i)) ((L.take i ++ [s] ++ L.drop i).map Value.string)) := G9 mX (by omega)
       have oB : Hid (Below (w.heap.size + 1) w0 w5) := bP.out.trans (T5.mono (by omega))
       have HL5 : Hid ((L.take i ++ [s] ++ L.drop i).length ≤ k + 1) := by have := qD.out; show _ ≤ _; rw [oK]; omega
       have j4 : Hid (bU l (k + 1) = L.take i ++ [s] ++ L.drop i) := HBb.out; clear kI dN mX nA mZ pO lT T5 gQ nF mW T2
       go_upto_region 11 with (at_builtin; refine dB rfl _ _ _ rfl _ _ rfl rfl mS ?_)
       go_upto_region 12 with (at_builtin; refine dB rfl _ _ _ rfl _ _ rfl rfl mQ ?_)
       go_upto_region 4 with (at_builtin; refine dB rfl _ _ _ rfl _ _ rfl rfl mP ?_)
       go_wp2
       go_roundw
       case rel => exact ⟨k + 1, L.take i ++ [s] ++ L.drop i, g5, c5, by omega, by go_num, by first | rw [oK] | (rw [oK]; rfl), HL5, j4, by rw [oK]; exact j5, oB⟩
       case measure => simp [intOf]; omega
     ·go_upto_region 4 with fail
      go_wp2
      go_roundw
      case rel => exact ⟨k + 1, L, g, c, by omega, by go_num, rfl, Nat.le_succ_of_le qD.out, HBb, kP, bP⟩
      case measure => simp [intOf]; omega
  ·obtain rfl : k = l.length := by omega
   have zD := aPu ((aKY HR.out).more (Nat.le_succ _) aPw); have HZ := aPu (HB.out.trans (cS.out.mono (by omega)))
   go_wp2
   go_ret
   exact ⟨g, c, by rw [HLt.out]; rfl, by rw [HLt.out]; exact zD.out, HZ.out⟩
theorem fD.grown {w w' : World} {lo hi base m : Nat} {a : Option Addr} {n : Nat} {l : List ByteArray} {v : Value} {xs : List Value} (h : fD w lo hi a n l) (hr : w.ownsRow base 39 3 v m xs) (hg : w.grownBy w' v.ownBlock) : fD w' lo hi a n l :=
 ⟨h.1, fun hn => by
  obtain ⟨g, off, cs, e, h1, h2, hb, r⟩ := h.2 hn; refine ⟨g, off, cs, e, h1, h2, (hg.block g (aPv hb).1 (fun e' => ?_)).trans hb, r⟩
  rcases hr.2 with ⟨e2, _⟩ | ⟨g', c, aV, e2, _, hg', _⟩
  ·rw [e2] at e'
   cases e'
  ·rw [e2] at e'
   have : g = g' := by simpa [Value.ownBlock] using e'
   subst this; rw [hb] at hg'; injection hg' with hg'; injection hg' with _ ht _; exact absurd ht (by decide)⟩
theorem aBL (xs : List Int) (l : List aA) : Asc (oJ xs l) := by
 unfold oJ
 split
 ·exact qQ l _
 ·exact List.Pairwise.nil
end Go.Proofs.YthkagbnpcjidfaaGreatDoor
