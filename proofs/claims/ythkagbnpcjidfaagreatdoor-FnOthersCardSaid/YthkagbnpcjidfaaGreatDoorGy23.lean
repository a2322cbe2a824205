/- Walks and mathematics that several claims share, part 23. -/
import Derived.Test.YthkagbnpcjidfaaGreatDoorGy22
import Derived.Test.YthkagbnpcjidfaaGreatDoorGy21
import Derived.Test.YthkagbnpcjidfaaGreatDoorGy15
import Derived.Test.YthkagbnpcjidfaaGreatDoorGy8
import Derived.Test.YthkagbnpcjidfaaGreatDoorGy10
import Derived.Test.YthkagbnpcjidfaaGreatDoorGy13
import Derived.Sort.Walk0
import Derived.Deep.CutRange
import Derived.Deep.CutBlock
import Derived.Deep.Cut
import Derived.Test.YthkagbnpcjidfaaGreatDoorGyA
namespace Go.Proofs.YthkagbnpcjidfaaGreatDoor
set_option maxHeartbeats 40000000
set_option maxRecDepth 100000
open Go.RowKit
set_option linter.unusedVariables false
set_option linter.unusedSimpArgs false
set_option linter.unusedVariables false

theorem aDo (a b : ByteArray) : Op.bytesLess a.toList b.toList = sH a b := bytesLess_eq _ _
def aQe (L : List ByteArray) (w : World) (e : Ending) (w' : World) : Prop :=
 ∃ g c, e = .returned (.slice (some ⟨g, 0, none⟩) L.length c) ∧ fV w' w.heap.size w'.heap.size (some ⟨g, 0, none⟩) L.length L ∧ Below w.heap.size w w'
theorem aMP {w : World} {base n c : Nat} {a : Option Addr} {L : List ByteArray} (h : w.ownsRow base 9 1 (.slice a n c) n (L.map Value.string)) : fV w base w.heap.size a n L := by
 obtain ⟨a', c', e, ho⟩ := yQ h
 injection e with e1 e2 e3
 subst e1
 exact ho
theorem aGq {l : List aA} {k i : Nat} {L : List ByteArray} {s : ByteArray} (_hk : k < l.length) (hL : bW l k = L) (hs : s = (aC l k).item) (hi : i ≤ L.length) (h1 : ∀ q, q < i → sH (L.getD q ⟨#[]⟩) s = true) (h2 : i < L.length → sH (L.getD i ⟨#[]⟩) s = false) :
  bW l (k + 1) = if (i < L.length ∧ L.getD i ⟨#[]⟩ = s) ∨ ¬ aG s l l.length % 2 = 1 then L else L.take i ++ [s] ++ L.drop i := by
 have e : (l.getD k aA.zero).item = s := hs.symm
 rw [bW, e, hL]
 by_cases hl : aG s l l.length % 2 = 1
 ·rw [if_pos hl, aFV s L i hi h1 h2]
  by_cases hc : i < L.length ∧ L.getD i ⟨#[]⟩ = s
  ·rw [if_pos hc, if_pos (.inl hc)]
  ·rw [if_neg hc, if_neg (fun h => h.elim hc (fun h => h hl)), List.append_assoc]
   rfl
 ·rw [if_neg hl, if_pos (.inr hl)]
theorem aJv (w : World) (B : Nat) (av ao : Option Addr) (nv cv no co : Nat) (xs : List Int) (l : List aA) (h : bS w B ao no l) (hB : B ≤ w.heap.size) (hn : no ≤ 1048576) (hc : aE xs l = true) :
  Calls Tryz.prog 115 #[.agg #[.slice av nv cv, .slice ao no co]] w (aQe (bW l l.length) w) := by
 obtain rfl := h.1
 have HC := aRA hc
 clear hc
 have aW : Below w.heap.size w (w.alloc (.cells #[.slice av nv cv, .slice ao l.length co] 27)) := (Below.refl _ w).alloc aRC _
 have HO := aRA (h.below aW hB)
 have HB := aRA aW
 have HX := aRA (bL (Below.refl _ (w.alloc (.cells #[.slice av nv cv, .slice ao l.length co] 27))))
 have dK : (w.alloc (.cells #[.slice av nv cv, .slice ao l.length co] 27)).heap.size = w.heap.size + 1 := by show (w.heap.push _).size = _; simp
 clear h aW
 go_enter Tryz.func115, Tryz.ntmps115
 go_wp2
 obtain ⟨w0, hw0⟩ : ∃ w0, w0 = w.alloc (.cells #[.slice av nv cv, .slice ao l.length co] 27) := ⟨_, rfl⟩
 rw [← hw0] at HO HB HX dK ⊢
 clear hw0
 have qI := World.ownsRow_made (e := 9) (size := 1) (base := w.heap.size + 1) w0 #[] 0 (by omega) (by unfold maxLen; omega) rfl
 rw [dK] at qI
 have rX := aRA qI
 have HW0 : Hid (Below (w.heap.size + 1) w0 (w0.alloc (.cells #[] 9))) := (Below.refl _ _).alloc (by omega) _
 have uV : w0.heap.size ≤ w.heap.size + 1 := by omega
 have aEs : w.heap.size + 1 ≤ w0.heap.size := by omega
 clear dK qI
 go_loopw [3, 4] (fun v i wr => ∃ (k : Nat) (L : List ByteArray) (g c : Nat), k ≤ l.length ∧ i = .int .i64 (k : Int) ∧ v = .slice (some ⟨g, 0, none⟩) L.length c ∧ Hid (L.length ≤ k) ∧ Hid (bW l k = L) ∧ Hid (wr.ownsRow (w.heap.size + 1) 9 1 (.slice (some ⟨g, 0, none⟩) L.length c) L.length (L.map Value.string)) ∧ Hid (Below (w.heap.size + 1) w0 wr)) (fun _ i _ => l.length - (intOf i).toNat)
 case atStart => exact ⟨0, [], _, _, Nat.zero_le _, rfl, rfl, Nat.le_refl _, rfl, rX.out, HW0.out⟩
 case round =>
  obtain ⟨k, L, g, c, hk, rfl, rfl, yM, HLt, HR, cR⟩ := hrel; have hLk : L.length ≤ l.length := Nat.le_trans yM.out hk; have uC := cR.out.size; have lJ : L.length ≤ c := (hC HR.out).1; have cJ := aRA ((cR.out.block w.heap.size (by omega)).trans HX.out)
  obtain ⟨c0, c1⟩ := pair_cells cJ.out
  by_cases aK : k < l.length
  ·obtain ⟨b, off, rfl, hb, ho⟩ := (HO.out.below cR.out (by omega)).2 k aK
   have hki : (k : Int) < (l.length : Int) := by omega
   have c4 := ho.2.2.2.2.1; obtain ⟨s, hs⟩ : ∃ s, s = (l.getD k aA.zero).item := ⟨_, rfl⟩; rw [← hs] at c4; have oB : Hid (s = (aC l k).item) := hs; have L5 := aRA (sB HR.out); clear ho hs
   go_upto_block 2 with fail
   clear c4 c0 c1
   go_cut [6] from 9 to 67 (fun j wx => wx = wr ∧ ∃ i : Nat, i ≤ L.length ∧ j = .int .i64 (i : Int) ∧ Hid (∀ q, q < i → sH (L.getD q ⟨#[]⟩) s = true) ∧ Hid (i < L.length → sH (L.getD i ⟨#[]⟩) s = false))
   case first =>
    go_wp2
    go_loop [6] (fun j => ∃ i : Nat, i ≤ L.length ∧ j = .int .i64 (i : Int) ∧ Hid (∀ q, q < i → sH (L.getD q ⟨#[]⟩) s = true)) (fun j => L.length - (intOf j).toNat)
    case atStart => exact ⟨0, Nat.zero_le _, rfl, fun q hq => absurd hq (by omega)⟩
    case round =>
     obtain ⟨i, hi, rfl, T4⟩ := hrel
     by_cases tJ : i < L.length
     ·obtain ⟨b2, o2, e2, aN, pY⟩ := L5.out.2 i tJ
      injection e2 with e2; injection e2 with e3 e4; subst e3 e4; rw [Nat.zero_add] at pY; obtain ⟨x, hx⟩ : ∃ x, x = L.getD i ⟨#[]⟩ := ⟨_, rfl⟩; rw [← hx] at pY; have hii : (i : Int) < (L.length : Int) := by omega
      have HXx := aRA hx; clear hx; rcases hl : Op.bytesLess x.toList s.toList with _ | _
      ·have HF : Hid (i < L.length → sH (L.getD i ⟨#[]⟩) s = false) := fun _ => by rw [← HXx.out]; exact (aDo _ _).symm.trans hl
       go_wp2
       go_meet
       exact ⟨rfl, i, hi, rfl, T4, HF⟩
      ·have HS : Hid (∀ q, q < i + 1 → sH (L.getD q ⟨#[]⟩) s = true) := fun q hq => by
        rcases Nat.lt_or_ge q i with h1 | h1
        ·exact T4.out q h1
        ·obtain rfl : q = i := by omega
         rw [← HXx.out]; exact (aDo _ _).symm.trans hl
       go_wp2
       exact ⟨⟨i + 1, by omega, by go_num, HS⟩, by simp [intOf]; omega⟩
     ·have HF : Hid (i < L.length → sH (L.getD i ⟨#[]⟩) s = false) := fun h => absurd h tJ
      go_wp2
      go_meet
      exact ⟨rfl, i, hi, rfl, T4, HF⟩
   case rest =>
    obtain ⟨hwc, i, hi, rfl, T4, HFe⟩ := hcut; subst hwc; obtain ⟨c0, c1⟩ := pair_cells cJ.out
    go_upto_region 9 with fail
    have c8 := aRA (aGq aK HLt.out oB.out hi T4.out HFe.out)
    go_cut [53] from 9 to 67 (fun bv wx => (∃ bb : Bool, bv = .bool bb ∧ Hid (bW l (k + 1) = if bb = true then L else L.take i ++ [s] ++ L.drop i)) ∧ Hid (Below wc.heap.size wc wx))
    case first =>
     by_cases tJ : i < L.length
     ·obtain ⟨b2, o2, e2, aN, pY⟩ := L5.out.2 i tJ
      injection e2 with e2; injection e2 with e3 e4; subst e3 e4; rw [Nat.zero_add] at pY; obtain ⟨x, hx⟩ : ∃ x, x = L.getD i ⟨#[]⟩ := ⟨_, rfl⟩; rw [← hx] at pY; have hii : (i : Int) < (L.length : Int) := by omega
      by_cases pI : (x.toList == s.toList) = true
      ·have HE : Hid (bW l (k + 1) = if true = true then L else L.take i ++ [s] ++ L.drop i) := by
        show _ = L
        rw [c8.out, if_pos (.inl ⟨tJ, by rw [← hx]; exact aBo (by simpa using pI)⟩)]
       clear hx; go_wp2
       go_meet
       exact ⟨⟨_, rfl, HE⟩, Below.refl _ _⟩
      ·have aPr : (x.toList == s.toList) = false := by simpa using pI
       have HE : Hid (∀ b : Bool, decide (aG s l l.length % 2 = 1) = b → bW l (k + 1) = if (!b) = true then L else L.take i ++ [s] ++ L.drop i) := by
        intro b hb
        rw [c8.out]; have h1 : ¬ (i < L.length ∧ L.getD i ⟨#[]⟩ = s) := fun h => pI (by rw [hx, h.2]; exact beq_self_eq_true _)
        cases b
        ·rw [if_pos (.inr (of_decide_eq_false hb))]; rfl
        ·rw [if_neg (fun h => h.elim h1 (fun h => h (of_decide_eq_true hb)))]; rfl
       clear pI hx
       go_wp2_with fail
       refine (aAz wc B av _ nv cv l.length co xs l s (HO.out.below cR.out (by omega)) (by omega) hn HC.out).mono ?_
       rintro e w2 ⟨rfl, bB⟩; obtain ⟨tb, htb⟩ : ∃ b, decide (aG s l l.length % 2 = 1) = b := ⟨_, rfl⟩; have HTb := aRA (HE.out tb htb); rw [htb]; clear htb; go_wp2
       all_goals (go_meet; exact ⟨⟨_, rfl, HTb⟩, bB⟩)
     ·have HE : Hid (∀ b : Bool, decide (aG s l l.length % 2 = 1) = b → bW l (k + 1) = if (!b) = true then L else L.take i ++ [s] ++ L.drop i) := by
       intro b hb
       rw [c8.out]; cases b
       ·rw [if_pos (.inr (of_decide_eq_false hb))]; rfl
       ·rw [if_neg (fun h => h.elim (fun h => tJ h.1) (fun h => h (of_decide_eq_true hb)))]; rfl
      go_wp2_with fail
      refine (aAz wc B av _ nv cv l.length co xs l s (HO.out.below cR.out (by omega)) (by omega) hn HC.out).mono ?_
      rintro e w2 ⟨rfl, bB⟩; obtain ⟨tb, htb⟩ : ∃ b, decide (aG s l l.length % 2 = 1) = b := ⟨_, rfl⟩; have HTb := aRA (HE.out tb htb); rw [htb]; clear htb; go_wp2
      all_goals (go_meet; exact ⟨⟨_, rfl, HTb⟩, bB⟩)
    case rest =>
     obtain ⟨⟨bb, rfl, HBb⟩, HW⟩ := hcut; clear c0 c1; have hw2 := HW.out.size; have bK := aRA (cR.out.trans (HW.out.mono (by omega)))
     have iY : Hid (wc.ownsRow (w.heap.size + 1) 9 1 (.slice (some ⟨g, 0, none⟩) L.length c) L.length (L.map Value.string)) := HR.out.kept (row := none) ⟨HW.out.os, HW.out.tape, HW.out.output, HW.out.size, fun j hj _ => HW.out.block j hj⟩ (.inr (by simp [Value.ownBlock]))
     have HS2 := aRA (sB iY.out); cases bb
     ·have aPW : i ≤ c := by omega
      have aW : Below wc.heap.size wc (wc.alloc (.cells #[] 9)) := bl; have qI : (wc.alloc (.cells #[] 9)).ownsRow wc.heap.size 9 1 (.slice (some ⟨wc.heap.size, 0, none⟩) 0 0) 0 (([] : List ByteArray).map Value.string) := World.ownsRow_made wc #[] 0 aRC (by unfold maxLen; omega) rfl
      have hTk := (HS2.out.below aW aRC).take hi
      go_upto_region 10 with fail
      by_cases hci : i = c
      ·obtain rfl : i = c := hci
       have hiL : L.length ≤ i := by omega
       obtain ⟨v1, w3, pO, dI, pX⟩ := nF _ wc.heap.size _ 0 [] qI (wc.heap.size) (some ⟨g, 0, none⟩) i i (L.take i) hTk (fun h => by cases h) (by omega) aW.size
       have mM : w3.ownsRow wc.heap.size 9 1 v1 i ((L.take i).map Value.string) := by simpa using dI
       have sR : Below wc.heap.size wc w3 := aW.grown pX aW.size (fun j hj => (qI.lt j hj).1)
       clear dI pX qI; have gB : Below wc.heap.size w3 (w3.alloc (.cells #[.string s] 9)) := (Below.refl _ _).alloc sR.size _; have pZ : jG (w3.alloc (.cells #[.string s] 9)) (w3.heap.size + 1) (some ⟨w3.heap.size, 0, none⟩) 1 [s] := I1 w3 s; have nK := mM.alloc (.cells #[.string s] 9); obtain ⟨v2, w4, pN, eK, pW⟩ := nF _ wc.heap.size v1 i (L.take i) nK (w3.heap.size + 1) (some ⟨w3.heap.size, 0, none⟩) 1 1 [s] pZ (fun h => by cases h) (by omega) (Nat.le_trans sR.size gB.size)
       have oU : Below wc.heap.size wc w4 := sR.trans (gB.grown pW (Nat.le_trans sR.size gB.size) (fun j hj => (nK.lt j hj).1))
       have x6 : jG w4 wc.heap.size (some ⟨g, 0, none⟩) 0 (L.drop i) := ⟨by rw [List.length_drop]; omega, fun j hj => absurd hj (by omega)⟩
       obtain ⟨v3, w5, pM, nX, pV⟩ := nF w4 wc.heap.size v2 (i + 1) _ eK wc.heap.size (some ⟨g, 0, none⟩) 0 0 (L.drop i) x6 (fun h => by cases h) (by omega) oU.size
       have x9 : Below wc.heap.size wc w5 := oU.grown pV oU.size (fun j hj => (eK.lt j hj).1)
       obtain ⟨g5, c5, rfl⟩ : ∃ g5 c5, v3 = .slice (some ⟨g5, 0, none⟩) (i + 1 + 0) c5 := by
        rcases nX.2 with ⟨_, e2⟩ | ⟨g5, c5, _, e2, _⟩
        ·omega
        ·exact ⟨g5, c5, e2⟩
       have kI : (L.take i ++ [s] ++ L.drop i).length = i + 1 + 0 := by simp; omega
       have HR5 : Hid (w5.ownsRow (w.heap.size + 1) 9 1 (.slice (some ⟨g5, 0, none⟩) (i + 1 + 0) c5) (i + 1 + 0) ((L.take i ++ [s] ++ L.drop i).map Value.string)) := U0 nX (by omega)
       have gZ : Hid (Below (w.heap.size + 1) w0 w5) := bK.out.trans (x9.mono (by omega))
       have HL5 : Hid ((L.take i ++ [s] ++ L.drop i).length ≤ k + 1) := by have := yM.out; show _ ≤ _; rw [kI]; omega
       have HS5 : Hid (bW l (k + 1) = L.take i ++ [s] ++ L.drop i) := HBb.out; clear mM eK nX pW pV sR oU x9 gB pZ nK x6
       go_upto_region 11 with (at_builtin; refine cX rfl _ _ _ rfl _ _ rfl rfl pO ?_)
       go_upto_region 12 with (at_builtin; refine cX rfl _ _ _ rfl _ _ rfl rfl pN ?_)
       go_upto_region 4 with (at_builtin; refine cX rfl _ _ _ rfl _ _ rfl rfl pM ?_)
       go_wp2
       go_roundw
       case rel => exact ⟨k + 1, L.take i ++ [s] ++ L.drop i, g5, c5, by omega, by go_num, by first | rw [kI] | (rw [kI]; rfl), HL5, HS5, by rw [kI]; exact HR5, gZ⟩
       case measure => simp [intOf]; omega
      ·have pY : ¬ (c : Int) = (i : Int) := by omega
       obtain ⟨v1, w3, pO, dI, pX⟩ := nF _ wc.heap.size _ 0 [] qI (wc.heap.size) (some ⟨g, 0, none⟩) i c (L.take i) hTk (fun h => by cases h) (by omega) aW.size
       have mM : w3.ownsRow wc.heap.size 9 1 v1 i ((L.take i).map Value.string) := by simpa using dI
       have sR : Below wc.heap.size wc w3 := aW.grown pX aW.size (fun j hj => (qI.lt j hj).1)
       clear dI pX qI; have gB : Below wc.heap.size w3 (w3.alloc (.cells #[.string s] 9)) := (Below.refl _ _).alloc sR.size _; have pZ : jG (w3.alloc (.cells #[.string s] 9)) (w3.heap.size + 1) (some ⟨w3.heap.size, 0, none⟩) 1 [s] := I1 w3 s; have nK := mM.alloc (.cells #[.string s] 9); obtain ⟨v2, w4, pN, eK, pW⟩ := nF _ wc.heap.size v1 i (L.take i) nK (w3.heap.size + 1) (some ⟨w3.heap.size, 0, none⟩) 1 1 [s] pZ (fun h => by cases h) (by omega) (Nat.le_trans sR.size gB.size)
       have oU : Below wc.heap.size wc w4 := sR.trans (gB.grown pW (Nat.le_trans sR.size gB.size) (fun j hj => (nK.lt j hj).1))
       have x6 : jG w4 wc.heap.size (some ⟨g, i, none⟩) (L.length - i) (L.drop i) := ((HS2.out.below oU aRC).drop hi); obtain ⟨v3, w5, pM, nX, pV⟩ := nF w4 wc.heap.size v2 (i + 1) _ eK wc.heap.size (some ⟨g, i, none⟩) (L.length - i) (c - i) (L.drop i) x6 (fun h => by cases h) (by omega) oU.size
       have x9 : Below wc.heap.size wc w5 := oU.grown pV oU.size (fun j hj => (eK.lt j hj).1)
       obtain ⟨g5, c5, rfl⟩ : ∃ g5 c5, v3 = .slice (some ⟨g5, 0, none⟩) (i + 1 + (L.length - i)) c5 := by
        rcases nX.2 with ⟨_, e2⟩ | ⟨g5, c5, _, e2, _⟩
        ·omega
        ·exact ⟨g5, c5, e2⟩
       have kI : (L.take i ++ [s] ++ L.drop i).length = i + 1 + (L.length - i) := by simp; omega
       have HR5 : Hid (w5.ownsRow (w.heap.size + 1) 9 1 (.slice (some ⟨g5, 0, none⟩) (i + 1 + (L.length - i)) c5) (i + 1 + (L.length - i)) ((L.take i ++ [s] ++ L.drop i).map Value.string)) := U0 nX (by omega)
       have gZ : Hid (Below (w.heap.size + 1) w0 w5) := bK.out.trans (x9.mono (by omega))
       have HL5 : Hid ((L.take i ++ [s] ++ L.drop i).length ≤ k + 1) := by have := yM.out; show _ ≤ _; rw [kI]; omega
       have HS5 : Hid (bW l (k + 1) = L.take i ++ [s] ++ L.drop i) := HBb.out; clear mM eK nX pW pV sR oU x9 gB pZ nK x6
       go_upto_region 11 with (at_builtin; refine cX rfl _ _ _ rfl _ _ rfl rfl pO ?_)
       go_upto_region 12 with (at_builtin; refine cX rfl _ _ _ rfl _ _ rfl rfl pN ?_)
       go_upto_region 4 with (at_builtin; refine cX rfl _ _ _ rfl _ _ rfl rfl pM ?_)
       go_wp2
       go_roundw
       case rel => exact ⟨k + 1, L.take i ++ [s] ++ L.drop i, g5, c5, by omega, by go_num, by first | rw [kI] | (rw [kI]; rfl), HL5, HS5, by rw [kI]; exact HR5, gZ⟩
       case measure => simp [intOf]; omega
     ·go_upto_region 4 with fail
      go_wp2
      go_roundw
      case rel => exact ⟨k + 1, L, g, c, by omega, by go_num, rfl, Nat.le_succ_of_le yM.out, HBb, iY, bK⟩
      case measure => simp [intOf]; omega
  ·obtain rfl : k = l.length := by omega
   have L5 := aRA ((aMP HR.out).more (Nat.le_succ _) aRC); have HZ := aRA (HB.out.trans (cR.out.mono (by omega)))
   go_wp2
   go_ret
   exact ⟨g, c, by rw [HLt.out]; rfl, by rw [HLt.out]; exact L5.out, HZ.out⟩
set_option linter.unusedVariables false

def aIV (L : List ByteArray) (w : World) (e : Ending) (w' : World) : Prop := ∃ a c, e = .returned (.slice a L.length c) ∧ fV w' w.heap.size w'.heap.size a L.length L ∧ Below w.heap.size w w'
theorem fV.grown {w w' : World} {lo hi base m : Nat} {a : Option Addr} {n : Nat} {l : List ByteArray} {v : Value} {xs : List Value} (h : fV w lo hi a n l) (hr : w.ownsRow base 39 3 v m xs) (hg : w.grownBy w' v.ownBlock) : fV w' lo hi a n l :=
 ⟨h.1, fun hn => by
  obtain ⟨g, off, cs, e, h1, h2, hb, r⟩ := h.2 hn; refine ⟨g, off, cs, e, h1, h2, (hg.block g (aRB hb).1 (fun e' => ?_)).trans hb, r⟩
  rcases hr.2 with ⟨e2, _⟩ | ⟨g', c, aX, e2, _, hg', _⟩
  ·rw [e2] at e'
   cases e'
  ·rw [e2] at e'
   have : g = g' := by simpa [Value.ownBlock] using e'
   subst this; rw [hb] at hg'; injection hg' with hg'; injection hg' with _ ht _; exact absurd ht (by decide)⟩
theorem oN {xs : List Int} {l : List aA} : (bY xs l).length ≤ 160 := by
 unfold bY
 split
 ·rename_i h
  exact Nat.le_trans (zG l _) (eU h)
 ·simp
theorem aBC {xs : List Int} {l : List aA} {x : ByteArray} (h : x ∈ bY xs l) : aE xs l = true ∧ ∃ i, i < l.length ∧ (l.getD i aA.zero).item = x := by
 unfold bY at h
 split at h
 ·rename_i hc
  obtain ⟨_, i, hi, e⟩ := (mW l x _).1 h; exact ⟨hc, i, hi, e⟩
 ·cases h
theorem aHM {o : aA} (h : o.ok = true) : 0 ≤ o.qty ∧ o.qty ≤ 999 := by
 have h' : dP o.dev o.seq o.stamp o.kind o.item o.qty o.level o.undos = true := h
 unfold dP E6 at h'
 simp only [Bool.and_eq_true] at h'
 obtain ⟨_, _, hq, _⟩ := h'
 unfold qB at hq
 split at hq
 ·have := gM.1 hq; omega
 ·have := of_decide_eq_true hq; omega
theorem aGm {xs : List Int} {l : List aA} {k : Nat} (hk : k < (aO xs l).length) : 0 ≤ ((aO xs l).getD k aT.zero).qty ∧ ((aO xs l).getD k aT.zero).qty ≤ 999 := by
 have hm : (aO xs l).getD k aT.zero ∈ aO xs l := by
  rw [List.getD_eq_getElem?_getD, List.getElem?_eq_getElem hk]; exact List.getElem_mem hk
 generalize (aO xs l).getD k aT.zero = y at hm ⊢
 unfold aO at hm
 obtain ⟨x, hx, rfl⟩ := List.mem_map.1 hm
 obtain ⟨hc, _⟩ := aBC hx
 show 0 ≤ (aU qV x l l.length).qty ∧ (aU qV x l l.length).qty ≤ 999
 rcases Q5 qV x l l.length with h | ⟨i, hi, h⟩
 ·rw [h]; decide
 ·rw [h]
  exact aHM (fA hc hi)
/-- The sum of the first k lines that are not saved. -/
def kU (L : List aT) : Nat → Int
 | 0 => 0
 | k + 1 => if (L.getD k aT.zero).saved = true then kU L k else kU L k + (L.getD k aT.zero).qty
theorem aAL {L : List aT} (h : ∀ k, k < L.length → 0 ≤ (L.getD k aT.zero).qty ∧ (L.getD k aT.zero).qty ≤ 999) : ∀ k, k ≤ L.length → 0 ≤ kU L k ∧ kU L k ≤ 999 * (k : Int)
 | 0, _ => by simp [kU]
 | k + 1, hk => by
  have ih := aAL h k (by omega)
  have hq := h k (by omega)
  rw [kU]
  split <;> omega
/-- What Total answers. -/
def tW (xs : List Int) (l : List aA) : Int := kU (aO xs l) (aO xs l).length
theorem aF8 (L : List aT) (k : Nat) : kU L (k + 1) = if (L.getD k aT.zero).saved = true then kU L k else kU L k + (L.getD k aT.zero).qty := rfl
set_option linter.unusedVariables false

/-- An odd level comes of a live operation that adds. -/
theorem aCn {xs : List Int} {l : List aA} (hc : aE xs l = true) (x : ByteArray) : ∀ k, k ≤ l.length → aG x l k % 2 = 1 → ∃ i, i < k ∧ (l.getD i aA.zero).item = x ∧ (l.getD i aA.zero).undos % 2 = 0 ∧ (l.getD i aA.zero).kind = 1
 | 0, _, h => by cases h
 | k + 1, hk, h => by
  rw [aG] at h
  split at h
  ·rename_i hi
   by_cases hm : aG x l k ≤ (l.getD k aA.zero).level
   ·rw [Int.max_eq_right hm] at h
    refine ⟨k, by omega, hi.1, hi.2, ?_⟩
    have hok : dP (l.getD k aA.zero).dev (l.getD k aA.zero).seq (l.getD k aA.zero).stamp (l.getD k aA.zero).kind (l.getD k aA.zero).item (l.getD k aA.zero).qty (l.getD k aA.zero).level (l.getD k aA.zero).undos = true := fA hc (i := k) (by omega)
    generalize l.getD k aA.zero = o at h hok; unfold dP E6 at hok; simp only [Bool.and_eq_true] at hok
    obtain ⟨_, u6, _, hl⟩ := hok; rcases wL u6 with e | e | e | e | e
    ·exact e
    all_goals
     rw [e] at hl; simp [lB] at hl
     omega
   ·rw [Int.max_eq_left (by omega)] at h
    obtain ⟨i, hi', r⟩ := aCn hc x k (by omega) h
    exact ⟨i, by omega, r⟩
  ·obtain ⟨i, hi', r⟩ := aCn hc x k (by omega) h
   exact ⟨i, by omega, r⟩
theorem aBS {xs : List Int} {l : List aA} (hc : aE xs l = true) (P : Int → Bool) (x : ByteArray) : ∀ k, k ≤ l.length → (∃ i, i < k ∧ (l.getD i aA.zero).item = x ∧ (l.getD i aA.zero).undos % 2 = 0 ∧ P (l.getD i aA.zero).kind = true) → P (aU P x l k).kind = true ∧ ∃ j, j < k ∧ aU P x l k = l.getD j aA.zero
 | 0, _, h => by obtain ⟨i, hi, _⟩ := h; omega
 | k + 1, hk, h => by
  rw [aU]
  split
  ·rename_i hh
   exact ⟨hh.1.1, k, by omega, rfl⟩
  ·rename_i hh
   have aK : ∃ i, i < k ∧ (l.getD i aA.zero).item = x ∧ (l.getD i aA.zero).undos % 2 = 0 ∧ P (l.getD i aA.zero).kind = true := by
    obtain ⟨i, hi, h1, h2, h3⟩ := h
    by_cases pU : i < k
    ·exact ⟨i, pU, h1, h2, h3⟩
    obtain rfl : i = k := by omega
    -- the last one was refused: there is one before it
    by_cases hb : ∃ j, j < i ∧ (l.getD j aA.zero).item = x ∧ (l.getD j aA.zero).undos % 2 = 0 ∧ P (l.getD j aA.zero).kind = true
    ·exact hb
    exfalso
    apply hh
    refine ⟨⟨h3, h1, h2⟩, .inl ?_⟩
    have hz : ∀ k, k ≤ i → aU P x l k = aA.zero := by
     intro k
     induction k with
     | zero => intro _; rfl
     | succ k ih =>
      intro pJ
      rw [aU, if_neg, ih (by omega)]
      rintro ⟨⟨a1, a2, a3⟩, _⟩; exact hb ⟨k, by omega, a2, a3, a1⟩
    rw [hz i aRC]
    rfl
   obtain ⟨h1, j, hj, h2⟩ := aBS hc P x k (by omega) aK
   exact ⟨h1, j, by omega, h2⟩
/-- What is there has a quantity. -/
theorem aI4 {xs : List Int} {l : List aA} (hc : aE xs l = true) {x : ByteArray} (h : aG x l l.length % 2 = 1) : 1 ≤ (aU qV x l l.length).qty := by
 obtain ⟨i, hi, h1, h2, h3⟩ := aCn hc x l.length aRC h
 obtain ⟨hk, j, hj, e⟩ := aBS hc qV x l.length aRC ⟨i, hi, h1, h2, by rw [h3]; rfl⟩
 rw [e] at hk ⊢
 have hok : dP (l.getD j aA.zero).dev (l.getD j aA.zero).seq (l.getD j aA.zero).stamp (l.getD j aA.zero).kind (l.getD j aA.zero).item (l.getD j aA.zero).qty (l.getD j aA.zero).level (l.getD j aA.zero).undos = true := fA hc hj
 generalize l.getD j aA.zero = o at hk hok
 unfold dP E6 at hok
 simp only [Bool.and_eq_true] at hok
 obtain ⟨_, _, hq, _⟩ := hok
 have S1 : o.kind = 1 ∨ o.kind = 2 := of_decide_eq_true hk
 unfold qB at hq
 rcases S1 with e' | e' <;> rw [e'] at hq <;> simp [dD] at hq <;> omega
/-- What the views say of an item that a cart shows. -/
theorem shown {xs : List Int} {l : List aA} {x : ByteArray} (h : x ∈ bY xs l) : aE xs l = true ∧ aBz xs l x % 2 = 1 ∧ 0 ≤ aBz xs l x ∧ (bX l x).item = x ∧ (bX l x).qty = aI6 xs l x ∧ (bX l x).saved = aDR xs l x ∧ 1 ≤ (bX l x).qty := by
 obtain ⟨hc, _⟩ := aBC h
 unfold bY at h
 rw [if_pos hc] at h
 obtain ⟨hl, _⟩ := (mW l x _).1 h
 refine ⟨hc, ?_, ?_, rfl, (aI5 hc hl).symm, (aGc hc hl).symm, aI4 hc hl⟩
 ·unfold aBz
  rw [if_pos hc]; exact hl
 ·unfold aBz
  rw [if_pos hc]; exact sI x l _
theorem oM (xs : List Int) (l : List aA) : Asc (bY xs l) := by
 unfold bY
 split
 ·exact tZ l _
 ·exact List.Pairwise.nil
theorem aD7 (xs : List Int) (l : List aA) {i : Nat} (hi : i < (aO xs l).length) : ∃ h : i < (bY xs l).length, (aO xs l).getD i aT.zero = bX l ((bY xs l).getD i ⟨#[]⟩) := by
 have hi2 : i < (bY xs l).length := by unfold aO at hi; rwa [List.length_map] at hi
 refine ⟨hi2, ?_⟩
 unfold aO
 rw [List.getD_eq_getElem?_getD, List.getElem?_map, List.getElem?_eq_getElem hi2, List.getD_eq_getElem?_getD, List.getElem?_eq_getElem hi2]
 rfl
end Go.Proofs.YthkagbnpcjidfaaGreatDoor
