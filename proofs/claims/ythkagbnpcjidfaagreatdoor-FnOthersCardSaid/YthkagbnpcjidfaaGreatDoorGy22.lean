/- Walks and mathematics that several claims share, part 22. -/
import Derived.Test.YthkagbnpcjidfaaGreatDoorGy17
import Derived.Deep.CutRange
import Derived.Deep.CutBlock
import Derived.Test.YthkagbnpcjidfaaGreatDoorGyA
namespace Go.Proofs.YthkagbnpcjidfaaGreatDoor
set_option maxHeartbeats 40000000
set_option maxRecDepth 100000
open Go.RowKit
set_option linter.unusedVariables false
set_option linter.unusedSimpArgs false
set_option linter.unusedVariables false

/-- A slice of texts as a walk reads it. -/
def jG (w : World) (B : Nat) (a : Option Addr) (n : Nat) (l : List ByteArray) : Prop :=
 l.length = n ∧ ∀ i, i < n → ∃ b off, a = some ⟨b, off, none⟩ ∧ b < B ∧ w.cell? ⟨b, off + i, none⟩ = some (.string (l.getD i ⟨#[]⟩))
theorem aJC : (Tryz.prog.info? 9).map (fun i => (i.zero, i.size, i.bytes)) = some (some (.string ⟨#[]⟩), 1, 16) := by kernel_rfl
theorem nF (w : World) (base : Nat) (v : Value) (n : Nat) (xs : List ByteArray) (aY : w.ownsRow base 9 1 v n (xs.map Value.string)) (B : Nat) (a : Option Addr) (m c : Nat) (ys : List ByteArray) (h : jG w B a m ys) (hc : a = none → c = 0) (hn : n + m ≤ 4194304) (F4 : base ≤ w.heap.size) :
  ∃ v' w', (Builtin.append_ #[55, 55] 55 #[v, .slice a m c]).run Tryz.prog w = .ok v' w' ∧ w'.ownsRow base 9 1 v' (n + m) ((xs ++ ys).map Value.string) ∧ w.grownBy w' v.ownBlock := by
 obtain ⟨i0, hi, iF, kO, jU⟩ := info_parts aJC
 have hl : ys.length = m := h.1
 rcases a with _ | x
 ·have hm : m = 0 := by
   rcases Nat.eq_zero_or_pos m with g | g
   ·exact g
   ·obtain ⟨_, _, e, _⟩ := h.2 0 g; cases e
  subst hm; have : ys = [] := List.eq_nil_of_length_eq_zero hl; subst this; rw [hc rfl]; exact ⟨v, w, run_append_owned_none (P := Tryz.prog) w base 55 55 9 i0 1 Tryz.underlying55 hi v n _ aY, by simpa using aY, World.grownBy.refl _ _⟩
 ·have wX : ∀ j u, (ys.map Value.string)[j]? = some u → w.cell? (x.add j) = some u := by
   intro j u hu
   have hj : j < ys.length := by
    rcases Nat.lt_or_ge j ys.length with g | g
    ·exact g
    ·rw [List.getElem?_eq_none (by simpa using g)] at hu; cases hu
   obtain ⟨b', iH, e, _, pY⟩ := h.2 j (by omega)
   injection e with e; subst e; rw [uI, pY]; rw [List.getElem?_map, List.getElem?_eq_getElem hj] at hu; rw [← hu, List.getD_eq_getElem?_getD, List.getElem?_eq_getElem hj]
   rfl
  obtain ⟨v', w', h1, h2, h3, _⟩ := run_append_own (P := Tryz.prog) w base 55 55 9 i0 (.string ⟨#[]⟩) 1 16 Tryz.underlying55 hi iF kO jU rfl (by decide) v n _ aY x m c (ys.map Value.string) (by rw [List.length_map, hl]; omega) wX (by intro u hu; rw [List.mem_map] at hu; obtain ⟨z, _, rfl⟩ := hu; rfl) (by unfold maxLen; omega) (by omega) F4
  exact ⟨v', w', h1, by rw [List.map_append]; exact h2, h3⟩
/-- A row of the call's own, as a walk reads it. -/
theorem sB {w : World} {base n c : Nat} {a : Option Addr} {L : List ByteArray} (h : w.ownsRow base 9 1 (.slice a n c) n (L.map Value.string)) : jG w w.heap.size a n L := by
 have hl : L.length = n := by have := h.1; simpa using this
 refine ⟨hl, fun i hi => ?_⟩
 rcases h.2 with ⟨_, e2⟩ | ⟨g, cap, aX, e, hb, hg, hnc, _, hcs, ht⟩
 ·omega
 ·injection e with e1 e2 e3
  subst e1; refine ⟨g, 0, rfl, (aRB hg).1, ?_⟩
  rw [aRD hg]; have h2 : (aX.toList.take (n * 1))[i]? = (L.map Value.string)[i]? := by rw [ht]
  rw [Nat.mul_one, List.getElem?_take_of_lt hi, List.getElem?_map, List.getElem?_eq_getElem (by omega : i < L.length)] at h2
  rw [Nat.zero_add, ← Array.getElem?_toList, h2, List.getD_eq_getElem?_getD, List.getElem?_eq_getElem (by omega)]
  rfl
def aQf (l : List aA) (w : World) (e : Ending) (w' : World) : Prop :=
 ∃ g c L, e = .returned (.slice (some ⟨g, 0, none⟩) L.length c) ∧ L.length ≤ l.length ∧ (∀ s ∈ L, ∃ i, i < l.length ∧ s = (aC l i).item) ∧ jG w' w'.heap.size (some ⟨g, 0, none⟩) L.length L ∧ Below w.heap.size w w'
theorem I1 (w : World) (s : ByteArray) : jG (w.alloc (.cells #[.string s] 9)) (w.heap.size + 1) (some ⟨w.heap.size, 0, none⟩) 1 [s] := by
 refine ⟨rfl, fun i hi => ⟨w.heap.size, 0, rfl, by omega, ?_⟩⟩
 obtain rfl : i = 0 := by omega
 rw [aRD (heap_alloc_new w _)]
 rfl
theorem U0 {w : World} {base aBV n size : Nat} {e : TypeId} {v : Value} {xs : List Value} (h : w.ownsRow base e size v n xs) (hb : aBV ≤ base) : w.ownsRow aBV e size v n xs := by
 refine ⟨h.1, ?_⟩
 rcases h.2 with h2 | ⟨g, cap, aX, e1, h3, r⟩
 ·exact .inl h2
 ·exact .inr ⟨g, cap, aX, e1, by omega, r⟩
theorem jG.below {w w' : World} {B B' : Nat} {a : Option Addr} {n : Nat} {l : List ByteArray} (h : jG w B a n l) (hb : Below B' w w') (hB : B ≤ B') : jG w' B a n l :=
 ⟨h.1, fun i hi => by
  obtain ⟨b, off, e, bD, hc⟩ := h.2 i hi; exact ⟨b, off, e, bD, (World.cell?_of_block (a := ⟨b, off + i, none⟩) (hb.block b (by omega))).trans hc⟩⟩
theorem jG.more {w : World} {B B' : Nat} {a : Option Addr} {n : Nat} {l : List ByteArray} (h : jG w B a n l) (hB : B ≤ B') : jG w B' a n l :=
 ⟨h.1, fun i hi => by
  obtain ⟨b, off, e, bD, hc⟩ := h.2 i hi; exact ⟨b, off, e, by omega, hc⟩⟩
theorem jG.take {w : World} {B : Nat} {a : Option Addr} {n k : Nat} {l : List ByteArray} (h : jG w B a n l) (hk : k ≤ n) : jG w B a k (l.take k) :=
 ⟨by rw [List.length_take, h.1]; omega, fun i hi => by
  obtain ⟨b, off, e, bD, hc⟩ := h.2 i (by omega)
  refine ⟨b, off, e, bD, ?_⟩
  rw [hc, List.getD_eq_getElem?_getD, List.getD_eq_getElem?_getD, List.getElem?_take_of_lt hi]⟩
theorem jG.drop {w : World} {B g : Nat} {n k : Nat} {l : List ByteArray} (h : jG w B (some ⟨g, 0, none⟩) n l) (hk : k ≤ n) : jG w B (some ⟨g, k, none⟩) (n - k) (l.drop k) :=
 ⟨by rw [List.length_drop, h.1], fun i hi => by
  obtain ⟨b, off, e, bD, hc⟩ := h.2 (k + i) (by omega)
  injection e with e; injection e with e1 e2; subst e1 e2; refine ⟨g, k, rfl, bD, ?_⟩
  rw [Nat.zero_add] at hc; rw [hc, List.getD_eq_getElem?_getD, List.getD_eq_getElem?_getD, List.getElem?_drop]⟩
theorem aQz (w : World) (B : Nat) (av ao : Option Addr) (nv cv no co : Nat) (xs : List Int) (l : List aA) (h : bS w B ao no l) (hB : B ≤ w.heap.size) (hn : no ≤ 1048576) (hc : aE xs l = true) :
  Calls Tryz.prog 115 #[.agg #[.slice av nv cv, .slice ao no co]] w (aQf l w) := by
 obtain rfl := h.1
 have HC := aRA hc
 clear hc
 have aW : Below w.heap.size w (w.alloc (.cells #[.slice av nv cv, .slice ao l.length co] 27)) := (Below.refl _ w).alloc aRC _
 have HO := aRA (h.below aW hB)
 have HB := aRA aW
 have HX := aRA (bL (Below.refl _ (w.alloc (.cells #[.slice av nv cv, .slice ao l.length co] 27))))
 have dK : (w.alloc (.cells #[.slice av nv cv, .slice ao l.length co] 27)).heap.size = w.heap.size + 1 := by show (w.heap.push _).size = _; simp
 clear h aW
 go_enter Tryz.func115, Tryz.ntmps115
 go_wp2
 obtain ⟨w0, hw0⟩ : ∃ w0, w0 = w.alloc (.cells #[.slice av nv cv, .slice ao l.length co] 27) := ⟨_, rfl⟩
 rw [← hw0] at HO HB HX dK ⊢
 clear hw0
 have qI := World.ownsRow_made (e := 9) (size := 1) (base := w.heap.size + 1) w0 #[] 0 (by omega) (by unfold maxLen; omega) rfl
 rw [dK] at qI
 have rX := aRA qI
 have HW0 : Hid (Below (w.heap.size + 1) w0 (w0.alloc (.cells #[] 9))) := (Below.refl _ _).alloc (by omega) _
 have uV : w0.heap.size ≤ w.heap.size + 1 := by omega
 have aEs : w.heap.size + 1 ≤ w0.heap.size := by omega
 clear dK qI
 go_loopw [3, 4] (fun v i wr => ∃ (k : Nat) (L : List ByteArray) (g c : Nat), k ≤ l.length ∧ i = .int .i64 (k : Int) ∧ v = .slice (some ⟨g, 0, none⟩) L.length c ∧ Hid (L.length ≤ k) ∧ Hid (∀ s ∈ L, ∃ i, i < l.length ∧ s = (aC l i).item) ∧ Hid (wr.ownsRow (w.heap.size + 1) 9 1 (.slice (some ⟨g, 0, none⟩) L.length c) L.length (L.map Value.string)) ∧ Hid (Below (w.heap.size + 1) w0 wr)) (fun _ i _ => l.length - (intOf i).toNat)
 case atStart => exact ⟨0, [], _, _, Nat.zero_le _, rfl, rfl, Nat.le_refl _, (fun s hs => by cases hs), rX.out, HW0.out⟩
 case round =>
  obtain ⟨k, L, g, c, hk, rfl, rfl, yM, tL, HR, cR⟩ := hrel; have hLk : L.length ≤ l.length := Nat.le_trans yM.out hk; have uC := cR.out.size; have lJ : L.length ≤ c := (hC HR.out).1; have cJ := aRA ((cR.out.block w.heap.size (by omega)).trans HX.out)
  obtain ⟨c0, c1⟩ := pair_cells cJ.out
  by_cases aK : k < l.length
  ·obtain ⟨b, off, rfl, hb, ho⟩ := (HO.out.below cR.out (by omega)).2 k aK
   have hki : (k : Int) < (l.length : Int) := by omega
   have c4 := ho.2.2.2.2.1; obtain ⟨s, hs⟩ : ∃ s, s = (l.getD k aA.zero).item := ⟨_, rfl⟩; rw [← hs] at c4; have oB : Hid (s = (aC l k).item) := hs; have L5 := aRA (sB HR.out); clear ho hs
   go_upto_block 2 with fail
   clear c4 c0 c1
   go_cut [6] from 9 to 67 (fun j wx => wx = wr ∧ ∃ i : Nat, i ≤ L.length ∧ j = .int .i64 (i : Int))
   case first =>
    go_wp2
    go_loop [6] (fun j => ∃ i : Nat, i ≤ L.length ∧ j = .int .i64 (i : Int)) (fun j => L.length - (intOf j).toNat)
    case atStart => exact ⟨0, Nat.zero_le _, rfl⟩
    case round =>
     obtain ⟨i, hi, rfl⟩ := hrel
     by_cases tJ : i < L.length
     ·obtain ⟨b2, o2, e2, aN, pY⟩ := L5.out.2 i tJ
      injection e2 with e2; injection e2 with e3 e4; subst e3 e4; rw [Nat.zero_add] at pY; obtain ⟨x, hx⟩ : ∃ x, x = L.getD i ⟨#[]⟩ := ⟨_, rfl⟩; rw [← hx] at pY; have hii : (i : Int) < (L.length : Int) := by omega
      clear hx; go_wp2
      ·exact ⟨⟨i + 1, by omega, by go_num⟩, by simp [intOf]; omega⟩
      ·go_meet
       exact ⟨rfl, i, hi, rfl⟩
     ·go_wp2
      go_meet
      exact ⟨rfl, i, hi, rfl⟩
   case rest =>
    obtain ⟨hwc, i, hi, rfl⟩ := hcut; subst hwc; obtain ⟨c0, c1⟩ := pair_cells cJ.out
    go_upto_region 9 with fail
    go_cut [53] from 9 to 67 (fun bv wx => (∃ bb : Bool, bv = .bool bb) ∧ Hid (Below wc.heap.size wc wx))
    case first =>
     by_cases tJ : i < L.length
     ·obtain ⟨b2, o2, e2, aN, pY⟩ := L5.out.2 i tJ
      injection e2 with e2; injection e2 with e3 e4; subst e3 e4; rw [Nat.zero_add] at pY; obtain ⟨x, hx⟩ : ∃ x, x = L.getD i ⟨#[]⟩ := ⟨_, rfl⟩; rw [← hx] at pY; have hii : (i : Int) < (L.length : Int) := by omega
      clear hx
      by_cases pI : (x.toList == s.toList) = true
      ·go_wp2
       go_meet
       exact ⟨⟨_, rfl⟩, Below.refl _ _⟩
      ·have aPr : (x.toList == s.toList) = false := by simpa using pI
       clear pI
       go_wp2_with fail
       refine (aAz wc B av _ nv cv l.length co xs l s (HO.out.below cR.out (by omega)) (by omega) hn HC.out).mono ?_
       rintro e w2 ⟨rfl, bB⟩; go_wp2
       all_goals (go_meet; exact ⟨⟨_, rfl⟩, bB⟩)
     ·go_wp2_with fail
      refine (aAz wc B av _ nv cv l.length co xs l s (HO.out.below cR.out (by omega)) (by omega) hn HC.out).mono ?_
      rintro e w2 ⟨rfl, bB⟩; go_wp2
      all_goals (go_meet; exact ⟨⟨_, rfl⟩, bB⟩)
    case rest =>
     obtain ⟨⟨bb, rfl⟩, HW⟩ := hcut; clear c0 c1; have hw2 := HW.out.size; have bK := aRA (cR.out.trans (HW.out.mono (by omega)))
     have iY : Hid (wc.ownsRow (w.heap.size + 1) 9 1 (.slice (some ⟨g, 0, none⟩) L.length c) L.length (L.map Value.string)) := HR.out.kept (row := none) ⟨HW.out.os, HW.out.tape, HW.out.output, HW.out.size, fun j hj _ => HW.out.block j hj⟩ (.inr (by simp [Value.ownBlock]))
     have HS2 := aRA (sB iY.out); cases bb
     ·have aPW : i ≤ c := by omega
      have aW : Below wc.heap.size wc (wc.alloc (.cells #[] 9)) := bl; have qI : (wc.alloc (.cells #[] 9)).ownsRow wc.heap.size 9 1 (.slice (some ⟨wc.heap.size, 0, none⟩) 0 0) 0 (([] : List ByteArray).map Value.string) := World.ownsRow_made wc #[] 0 aRC (by unfold maxLen; omega) rfl
      have hTk := (HS2.out.below aW aRC).take hi
      go_upto_region 10 with fail
      by_cases hci : i = c
      ·obtain rfl : i = c := hci
       have hiL : L.length ≤ i := by omega
       obtain ⟨v1, w3, pO, dI, pX⟩ := nF _ wc.heap.size _ 0 [] qI (wc.heap.size) (some ⟨g, 0, none⟩) i i (L.take i) hTk (fun h => by cases h) (by omega) aW.size
       have mM : w3.ownsRow wc.heap.size 9 1 v1 i ((L.take i).map Value.string) := by simpa using dI
       have sR : Below wc.heap.size wc w3 := aW.grown pX aW.size (fun j hj => (qI.lt j hj).1)
       clear dI pX qI; have gB : Below wc.heap.size w3 (w3.alloc (.cells #[.string s] 9)) := (Below.refl _ _).alloc sR.size _; have pZ : jG (w3.alloc (.cells #[.string s] 9)) (w3.heap.size + 1) (some ⟨w3.heap.size, 0, none⟩) 1 [s] := I1 w3 s; have nK := mM.alloc (.cells #[.string s] 9); obtain ⟨v2, w4, pN, eK, pW⟩ := nF _ wc.heap.size v1 i (L.take i) nK (w3.heap.size + 1) (some ⟨w3.heap.size, 0, none⟩) 1 1 [s] pZ (fun h => by cases h) (by omega) (Nat.le_trans sR.size gB.size)
       have oU : Below wc.heap.size wc w4 := sR.trans (gB.grown pW (Nat.le_trans sR.size gB.size) (fun j hj => (nK.lt j hj).1))
       have x6 : jG w4 wc.heap.size (some ⟨g, 0, none⟩) 0 (L.drop i) := ⟨by rw [List.length_drop]; omega, fun j hj => absurd hj (by omega)⟩
       obtain ⟨v3, w5, pM, nX, pV⟩ := nF w4 wc.heap.size v2 (i + 1) _ eK wc.heap.size (some ⟨g, 0, none⟩) 0 0 (L.drop i) x6 (fun h => by cases h) (by omega) oU.size
       have x9 : Below wc.heap.size wc w5 := oU.grown pV oU.size (fun j hj => (eK.lt j hj).1)
       obtain ⟨g5, c5, rfl⟩ : ∃ g5 c5, v3 = .slice (some ⟨g5, 0, none⟩) (i + 1 + 0) c5 := by
        rcases nX.2 with ⟨_, e2⟩ | ⟨g5, c5, _, e2, _⟩
        ·omega
        ·exact ⟨g5, c5, e2⟩
       have kI : (L.take i ++ [s] ++ L.drop i).length = i + 1 + 0 := by simp; omega
       have HR5 : Hid (w5.ownsRow (w.heap.size + 1) 9 1 (.slice (some ⟨g5, 0, none⟩) (i + 1 + 0) c5) (i + 1 + 0) ((L.take i ++ [s] ++ L.drop i).map Value.string)) := U0 nX (by omega)
       have gZ : Hid (Below (w.heap.size + 1) w0 w5) := bK.out.trans (x9.mono (by omega))
       have HL5 : Hid ((L.take i ++ [s] ++ L.drop i).length ≤ k + 1) := by have := yM.out; show _ ≤ _; rw [kI]; omega
       have HS5 : Hid (∀ q ∈ L.take i ++ [s] ++ L.drop i, ∃ i, i < l.length ∧ q = (aC l i).item) := by
        intro q hq
        simp only [List.mem_append, List.mem_singleton] at hq
        rcases hq with (hq | rfl) | hq
        ·exact tL.out q (List.mem_of_mem_take hq)
        ·exact ⟨k, aK, oB.out⟩
        ·exact tL.out q (List.mem_of_mem_drop hq)
       clear mM eK nX pW pV sR oU x9 gB pZ nK x6
       go_upto_region 11 with (at_builtin; refine cX rfl _ _ _ rfl _ _ rfl rfl pO ?_)
       go_upto_region 12 with (at_builtin; refine cX rfl _ _ _ rfl _ _ rfl rfl pN ?_)
       go_upto_region 4 with (at_builtin; refine cX rfl _ _ _ rfl _ _ rfl rfl pM ?_)
       go_wp2
       go_roundw
       case rel => exact ⟨k + 1, L.take i ++ [s] ++ L.drop i, g5, c5, by omega, by go_num, by first | rw [kI] | (rw [kI]; rfl), HL5, HS5, by rw [kI]; exact HR5, gZ⟩
       case measure => simp [intOf]; omega
      ·have pY : ¬ (c : Int) = (i : Int) := by omega
       obtain ⟨v1, w3, pO, dI, pX⟩ := nF _ wc.heap.size _ 0 [] qI (wc.heap.size) (some ⟨g, 0, none⟩) i c (L.take i) hTk (fun h => by cases h) (by omega) aW.size
       have mM : w3.ownsRow wc.heap.size 9 1 v1 i ((L.take i).map Value.string) := by simpa using dI
       have sR : Below wc.heap.size wc w3 := aW.grown pX aW.size (fun j hj => (qI.lt j hj).1)
       clear dI pX qI; have gB : Below wc.heap.size w3 (w3.alloc (.cells #[.string s] 9)) := (Below.refl _ _).alloc sR.size _; have pZ : jG (w3.alloc (.cells #[.string s] 9)) (w3.heap.size + 1) (some ⟨w3.heap.size, 0, none⟩) 1 [s] := I1 w3 s; have nK := mM.alloc (.cells #[.string s] 9); obtain ⟨v2, w4, pN, eK, pW⟩ := nF _ wc.heap.size v1 i (L.take i) nK (w3.heap.size + 1) (some ⟨w3.heap.size, 0, none⟩) 1 1 [s] pZ (fun h => by cases h) (by omega) (Nat.le_trans sR.size gB.size)
       have oU : Below wc.heap.size wc w4 := sR.trans (gB.grown pW (Nat.le_trans sR.size gB.size) (fun j hj => (nK.lt j hj).1))
       have x6 : jG w4 wc.heap.size (some ⟨g, i, none⟩) (L.length - i) (L.drop i) := ((HS2.out.below oU aRC).drop hi); obtain ⟨v3, w5, pM, nX, pV⟩ := nF w4 wc.heap.size v2 (i + 1) _ eK wc.heap.size (some ⟨g, i, none⟩) (L.length - i) (c - i) (L.drop i) x6 (fun h => by cases h) (by omega) oU.size
       have x9 : Below wc.heap.size wc w5 := oU.grown pV oU.size (fun j hj => (eK.lt j hj).1)
       obtain ⟨g5, c5, rfl⟩ : ∃ g5 c5, v3 = .slice (some ⟨g5, 0, none⟩) (i + 1 + (L.length - i)) c5 := by
        rcases nX.2 with ⟨_, e2⟩ | ⟨g5, c5, _, e2, _⟩
        ·omega
        ·exact ⟨g5, c5, e2⟩
       have kI : (L.take i ++ [s] ++ L.drop i).length = i + 1 + (L.length - i) := by simp; omega
       have HR5 : Hid (w5.ownsRow (w.heap.size + 1) 9 1 (.slice (some ⟨g5, 0, none⟩) (i + 1 + (L.length - i)) c5) (i + 1 + (L.length - i)) ((L.take i ++ [s] ++ L.drop i).map Value.string)) := U0 nX (by omega)
       have gZ : Hid (Below (w.heap.size + 1) w0 w5) := bK.out.trans (x9.mono (by omega))
       have HL5 : Hid ((L.take i ++ [s] ++ L.drop i).length ≤ k + 1) := by have := yM.out; show _ ≤ _; rw [kI]; omega
       have HS5 : Hid (∀ q ∈ L.take i ++ [s] ++ L.drop i, ∃ i, i < l.length ∧ q = (aC l i).item) := by
        intro q hq
        simp only [List.mem_append, List.mem_singleton] at hq
        rcases hq with (hq | rfl) | hq
        ·exact tL.out q (List.mem_of_mem_take hq)
        ·exact ⟨k, aK, oB.out⟩
        ·exact tL.out q (List.mem_of_mem_drop hq)
       clear mM eK nX pW pV sR oU x9 gB pZ nK x6
       go_upto_region 11 with (at_builtin; refine cX rfl _ _ _ rfl _ _ rfl rfl pO ?_)
       go_upto_region 12 with (at_builtin; refine cX rfl _ _ _ rfl _ _ rfl rfl pN ?_)
       go_upto_region 4 with (at_builtin; refine cX rfl _ _ _ rfl _ _ rfl rfl pM ?_)
       go_wp2
       go_roundw
       case rel => exact ⟨k + 1, L.take i ++ [s] ++ L.drop i, g5, c5, by omega, by go_num, by first | rw [kI] | (rw [kI]; rfl), HL5, HS5, by rw [kI]; exact HR5, gZ⟩
       case measure => simp [intOf]; omega
     ·go_upto_region 4 with fail
      go_wp2
      go_roundw
      case rel => exact ⟨k + 1, L, g, c, by omega, by go_num, rfl, Nat.le_succ_of_le yM.out, tL, iY, bK⟩
      case measure => simp [intOf]; omega
  ·obtain rfl : k = l.length := by omega
   have L5 := aRA (sB HR.out); have HZ := aRA (HB.out.trans (cR.out.mono (by omega)))
   go_wp2
   go_ret
   exact ⟨g, c, L, rfl, yM.out, tL.out, L5.out, HZ.out⟩
end Go.Proofs.YthkagbnpcjidfaaGreatDoor
