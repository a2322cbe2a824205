/- Walks and mathematics that several claims share, part 26. -/
import Derived.Test.YthkagbnpcjidfaaGreatDoorGu20
import Derived.Deep.CutRange
import Derived.Deep.CutBlock
namespace Go.Proofs.YthkagbnpcjidfaaGreatDoor
set_option maxRecDepth 100000
open Go.RowKit
set_option linter.unusedVariables false
set_option linter.unusedSimpArgs false
def gZ (w : World) (B : Nat) (a : Option Addr) (n : Nat) (l : List ByteArray) : Prop :=
 l.length = n ∧ ∀ i, i < n → ∃ b off, a = some ⟨b, off, none⟩ ∧ b < B ∧ w.cell? ⟨b, off + i, none⟩ = some (.string (l.getD i ⟨#[]⟩))
theorem aIe : (Tryz.prog.info? 9).map (fun i => (i.zero, i.size, i.bytes)) = some (some (.string ⟨#[]⟩), 1, 16) := by kernel_rfl
theorem kS (w : World) (base : Nat) (v : Value) (n : Nat) (xs : List ByteArray) (aU : w.ownsRow base 9 1 v n (xs.map Value.string)) (B : Nat) (a : Option Addr) (m c : Nat) (ys : List ByteArray) (h : gZ w B a m ys) (hc : a = none → c = 0) (hn : n + m ≤ 4194304) (xJ : base ≤ w.heap.size) :
  ∃ v' w', (Builtin.append_ #[55, 55] 55 #[v, .slice a m c]).run Tryz.prog w = .ok v' w' ∧ w'.ownsRow base 9 1 v' (n + m) ((xs ++ ys).map Value.string) ∧ w.grownBy w' v.ownBlock := by
 obtain ⟨i0, hi, gK, jV, iS⟩ := info_parts aIe
 have hl : ys.length = m := h.1
 rcases a with _ | x
 ·have hm : m = 0 := by
   rcases Nat.eq_zero_or_pos m with g | g
   ·exact g
   ·obtain ⟨_, _, e, _⟩ := h.2 0 g; cases e
  subst hm; have : ys = [] := List.eq_nil_of_length_eq_zero hl; subst this; rw [hc rfl]; exact ⟨v, w, run_append_owned_none (P := Tryz.prog) w base 55 55 9 i0 1 Tryz.underlying55 hi v n _ aU, by simpa using aU, World.grownBy.refl _ _⟩
 ·have yT : ∀ j u, (ys.map Value.string)[j]? = some u → w.cell? (x.add j) = some u := by
   intro j u hu
   have hj : j < ys.length := by
    rcases Nat.lt_or_ge j ys.length with g | g
    ·exact g
    ·rw [List.getElem?_eq_none (by simpa using g)] at hu; cases hu
   obtain ⟨b', sM, e, _, nI⟩ := h.2 j (by omega)
   injection e with e; subst e; rw [tD, nI]; rw [List.getElem?_map, List.getElem?_eq_getElem hj] at hu; rw [← hu, List.getD_eq_getElem?_getD, List.getElem?_eq_getElem hj]
   rfl
  obtain ⟨v', w', h1, h2, h3, _⟩ := run_append_own (P := Tryz.prog) w base 55 55 9 i0 (.string ⟨#[]⟩) 1 16 Tryz.underlying55 hi gK jV iS rfl (by decide) v n _ aU x m c (ys.map Value.string) (by rw [List.length_map, hl]; omega) yT (by intro u hu; rw [List.mem_map] at hu; obtain ⟨z, _, rfl⟩ := hu; rfl) (by unfold maxLen; omega) (by omega) xJ
  exact ⟨v', w', h1, by rw [List.map_append]; exact h2, h3⟩
theorem pA {w : World} {base n c : Nat} {a : Option Addr} {L : List ByteArray} (h : w.ownsRow base 9 1 (.slice a n c) n (L.map Value.string)) : gZ w w.heap.size a n L := by
 have hl : L.length = n := by have := h.1; simpa using this
 refine ⟨hl, fun i hi => ?_⟩
 rcases h.2 with ⟨_, e2⟩ | ⟨g, cap, aW, e, hb, hg, hnc, _, hcs, ht⟩
 ·omega
 ·injection e with e1 e2 e3
  subst e1; refine ⟨g, 0, rfl, (aPp hg).1, ?_⟩
  rw [aPr hg]; have h2 : (aW.toList.take (n * 1))[i]? = (L.map Value.string)[i]? := by rw [ht]
  rw [Nat.mul_one, List.getElem?_take_of_lt hi, List.getElem?_map, List.getElem?_eq_getElem (by omega : i < L.length)] at h2
  rw [Nat.zero_add, ← Array.getElem?_toList, h2, List.getD_eq_getElem?_getD, List.getElem?_eq_getElem (by omega)]
  rfl
def aOc (l : List aA) (w : World) (e : Ending) (w' : World) : Prop :=
 ∃ g c L, e = .returned (.slice (some ⟨g, 0, none⟩) L.length c) ∧ L.length ≤ l.length ∧ (∀ s ∈ L, ∃ i, i < l.length ∧ s = (aC l i).item) ∧ gZ w' w'.heap.size (some ⟨g, 0, none⟩) L.length L ∧ Below w.heap.size w w'
theorem yE (w : World) (s : ByteArray) : gZ (w.alloc (.cells #[.string s] 9)) (w.heap.size + 1) (some ⟨w.heap.size, 0, none⟩) 1 [s] := by
 refine ⟨rfl, fun i hi => ⟨w.heap.size, 0, rfl, by omega, ?_⟩⟩
 obtain rfl : i = 0 := by omega
 rw [aPr (heap_alloc_new w _)]
 rfl
theorem I3 {w : World} {base aAD n size : Nat} {e : TypeId} {v : Value} {xs : List Value} (h : w.ownsRow base e size v n xs) (hb : aAD ≤ base) : w.ownsRow aAD e size v n xs := by
 refine ⟨h.1, ?_⟩
 rcases h.2 with h2 | ⟨g, cap, aW, e1, h3, r⟩
 ·exact .inl h2
 ·exact .inr ⟨g, cap, aW, e1, by omega, r⟩
theorem gZ.below {w w' : World} {B B' : Nat} {a : Option Addr} {n : Nat} {l : List ByteArray} (h : gZ w B a n l) (hb : Below B' w w') (hB : B ≤ B') : gZ w' B a n l :=
 ⟨h.1, fun i hi => by
  obtain ⟨b, off, e, aT, hc⟩ := h.2 i hi; exact ⟨b, off, e, aT, (World.cell?_of_block (a := ⟨b, off + i, none⟩) (hb.block b (by omega))).trans hc⟩⟩
theorem gZ.more {w : World} {B B' : Nat} {a : Option Addr} {n : Nat} {l : List ByteArray} (h : gZ w B a n l) (hB : B ≤ B') : gZ w B' a n l :=
 ⟨h.1, fun i hi => by
  obtain ⟨b, off, e, aT, hc⟩ := h.2 i hi; exact ⟨b, off, e, by omega, hc⟩⟩
theorem gZ.take {w : World} {B : Nat} {a : Option Addr} {n k : Nat} {l : List ByteArray} (h : gZ w B a n l) (hk : k ≤ n) : gZ w B a k (l.take k) :=
 ⟨by rw [List.length_take, h.1]; omega, fun i hi => by
  obtain ⟨b, off, e, aT, hc⟩ := h.2 i (by omega)
  refine ⟨b, off, e, aT, ?_⟩
  rw [hc, List.getD_eq_getElem?_getD, List.getD_eq_getElem?_getD, List.getElem?_take_of_lt hi]⟩
theorem gZ.drop {w : World} {B g : Nat} {n k : Nat} {l : List ByteArray} (h : gZ w B (some ⟨g, 0, none⟩) n l) (hk : k ≤ n) : gZ w B (some ⟨g, k, none⟩) (n - k) (l.drop k) :=
 ⟨by rw [List.length_drop, h.1], fun i hi => by
  obtain ⟨b, off, e, aT, hc⟩ := h.2 (k + i) (by omega)
  injection e with e; injection e with e1 e2; subst e1 e2; refine ⟨g, k, rfl, aT, ?_⟩
  rw [Nat.zero_add] at hc; rw [hc, List.getD_eq_getElem?_getD, List.getD_eq_getElem?_getD, List.getElem?_drop]⟩
set_option maxHeartbeats 40000000 in
theorem aOt (w : World) (B : Nat) (av ao : Option Addr) (nv cv no co : Nat) (xs : List Int) (l : List aA) (h : bP w B ao no l) (hB : B ≤ w.heap.size) (hn : no ≤ 1048576) (hc : aE xs l = true) :
  Calls Tryz.prog 115 #[.agg #[.slice av nv cv, .slice ao no co]] w (aOc l w) := by
 obtain rfl := h.1
 have HC := aPo hc
 clear hc
 have bD : Below w.heap.size w (w.alloc (.cells #[.slice av nv cv, .slice ao l.length co] 27)) := (Below.refl _ w).alloc aPq _
 have HO := aPo (h.below bD hB)
 have HB := aPo bD
 have HX := aPo (bX (Below.refl _ (w.alloc (.cells #[.slice av nv cv, .slice ao l.length co] 27))))
 have dC : (w.alloc (.cells #[.slice av nv cv, .slice ao l.length co] 27)).heap.size = w.heap.size + 1 := by show (w.heap.push _).size = _; simp
 clear h bD
 go_enter Tryz.func115, Tryz.ntmps115
 go_wp2
 obtain ⟨w0, hw0⟩ : ∃ w0, w0 = w.alloc (.cells #[.slice av nv cv, .slice ao l.length co] 27) := ⟨_, rfl⟩
 rw [← hw0] at HO HB HX dC ⊢
 clear hw0
 have nP := World.ownsRow_made (e := 9) (size := 1) (base := w.heap.size + 1) w0 #[] 0 (by omega) (by unfold maxLen; omega) rfl
 rw [dC] at nP
 have oV := aPo nP
 have HW0 : Hid (Below (w.heap.size + 1) w0 (w0.alloc (.cells #[] 9))) := (Below.refl _ _).alloc (by omega) _
 have rH : w0.heap.size ≤ w.heap.size + 1 := by omega
 have aNr : w.heap.size + 1 ≤ w0.heap.size := by omega
 clear dC nP
 go_loopw [3, 4] (fun v i wr => ∃ (k : Nat) (L : List ByteArray) (g c : Nat), k ≤ l.length ∧ i = .int .i64 (k : Int) ∧ v = .slice (some ⟨g, 0, none⟩) L.length c ∧ Hid (L.length ≤ k) ∧ Hid (∀ s ∈ L, ∃ i, i < l.length ∧ s = (aC l i).item) ∧ Hid (wr.ownsRow (w.heap.size + 1) 9 1 (.slice (some ⟨g, 0, none⟩) L.length c) L.length (L.map Value.string)) ∧ Hid (Below (w.heap.size + 1) w0 wr)) (fun _ i _ => l.length - (intOf i).toNat)
 case atStart => exact ⟨0, [], _, _, Nat.zero_le _, rfl, rfl, Nat.le_refl _, (fun s hs => by cases hs), oV.out, HW0.out⟩
 case round =>
  obtain ⟨k, L, g, c, hk, rfl, rfl, uB, oK, HR, cW⟩ := hrel; have hLk : L.length ≤ l.length := Nat.le_trans uB.out hk; have tU := cW.out.size; have jJ : L.length ≤ c := (gA HR.out).1; have cD := aPo ((cW.out.block w.heap.size (by omega)).trans HX.out)
  obtain ⟨c0, c1⟩ := pair_cells cD.out
  by_cases aJ : k < l.length
  ·obtain ⟨b, off, rfl, hb, ho⟩ := (HO.out.below cW.out (by omega)).2 k aJ
   have hki : (k : Int) < (l.length : Int) := by omega
   have c4 := ho.2.2.2.2.1; obtain ⟨s, hs⟩ : ∃ s, s = (l.getD k aA.zero).item := ⟨_, rfl⟩; rw [← hs] at c4; have lL : Hid (s = (aC l k).item) := hs; have zK := aPo (pA HR.out); clear ho hs
   go_upto_block 2 with fail
   clear c4 c0 c1
   go_cut [6] from 9 to 67 (fun j wx => wx = wr ∧ ∃ i : Nat, i ≤ L.length ∧ j = .int .i64 (i : Int))
   case first =>
    go_wp2
    go_loop [6] (fun j => ∃ i : Nat, i ≤ L.length ∧ j = .int .i64 (i : Int)) (fun j => L.length - (intOf j).toNat)
    case atStart => exact ⟨0, Nat.zero_le _, rfl⟩
    case round =>
     obtain ⟨i, hi, rfl⟩ := hrel
     by_cases qH : i < L.length
     ·obtain ⟨b2, o2, e2, aM, nI⟩ := zK.out.2 i qH
      injection e2 with e2; injection e2 with e3 e4; subst e3 e4; rw [Nat.zero_add] at nI; obtain ⟨x, hx⟩ : ∃ x, x = L.getD i ⟨#[]⟩ := ⟨_, rfl⟩; rw [← hx] at nI; have hii : (i : Int) < (L.length : Int) := by omega
      clear hx; go_wp2
      ·exact ⟨⟨i + 1, by omega, by go_num⟩, by simp [intOf]; omega⟩
      ·go_meet
       exact ⟨rfl, i, hi, rfl⟩
     ·go_wp2
      go_meet
      exact ⟨rfl, i, hi, rfl⟩
   case rest =>
    obtain ⟨hwc, i, hi, rfl⟩ := hcut; subst hwc; obtain ⟨c0, c1⟩ := pair_cells cD.out
    go_upto_region 9 with fail
    go_cut [53] from 9 to 67 (fun bv wx => (∃ bb : Bool, bv = .bool bb) ∧ Hid (Below wc.heap.size wc wx))
    case first =>
     by_cases qH : i < L.length
     ·obtain ⟨b2, o2, e2, aM, nI⟩ := zK.out.2 i qH
      injection e2 with e2; injection e2 with e3 e4; subst e3 e4; rw [Nat.zero_add] at nI; obtain ⟨x, hx⟩ : ∃ x, x = L.getD i ⟨#[]⟩ := ⟨_, rfl⟩; rw [← hx] at nI; have hii : (i : Int) < (L.length : Int) := by omega
      clear hx
      by_cases mV : (x.toList == s.toList) = true
      ·go_wp2
       go_meet
       exact ⟨⟨_, rfl⟩, Below.refl _ _⟩
      ·have aNj : (x.toList == s.toList) = false := by simpa using mV
       clear mV
       go_wp2_with fail
       refine (X8 wc B av _ nv cv l.length co xs l s (HO.out.below cW.out (by omega)) (by omega) hn HC.out).mono ?_
       rintro e w2 ⟨rfl, aV⟩; go_wp2
       all_goals (go_meet; exact ⟨⟨_, rfl⟩, aV⟩)
     ·go_wp2_with fail
      refine (X8 wc B av _ nv cv l.length co xs l s (HO.out.below cW.out (by omega)) (by omega) hn HC.out).mono ?_
      rintro e w2 ⟨rfl, aV⟩; go_wp2
      all_goals (go_meet; exact ⟨⟨_, rfl⟩, aV⟩)
    case rest =>
     obtain ⟨⟨bb, rfl⟩, HW⟩ := hcut; clear c0 c1; have hw2 := HW.out.size; have bT := aPo (cW.out.trans (HW.out.mono (by omega)))
     have lM : Hid (wc.ownsRow (w.heap.size + 1) 9 1 (.slice (some ⟨g, 0, none⟩) L.length c) L.length (L.map Value.string)) := HR.out.kept (row := none) ⟨HW.out.os, HW.out.tape, HW.out.output, HW.out.size, fun j hj _ => HW.out.block j hj⟩ (.inr (by simp [Value.ownBlock]))
     have HS2 := aPo (pA lM.out); cases bb
     ·have aNS : i ≤ c := by omega
      have bD : Below wc.heap.size wc (wc.alloc (.cells #[] 9)) := bl; have nP : (wc.alloc (.cells #[] 9)).ownsRow wc.heap.size 9 1 (.slice (some ⟨wc.heap.size, 0, none⟩) 0 0) 0 (([] : List ByteArray).map Value.string) := World.ownsRow_made wc #[] 0 aPq (by unfold maxLen; omega) rfl
      have hTk := (HS2.out.below bD aPq).take hi
      go_upto_region 10 with fail
      by_cases hci : i = c
      ·obtain rfl : i = c := hci
       have hiL : L.length ≤ i := by omega
       obtain ⟨v1, w3, nA, cX, nH⟩ := kS _ wc.heap.size _ 0 [] nP (wc.heap.size) (some ⟨g, 0, none⟩) i i (L.take i) hTk (fun h => by cases h) (by omega) bD.size
       have kL : w3.ownsRow wc.heap.size 9 1 v1 i ((L.take i).map Value.string) := by simpa using cX
       have pS : Below wc.heap.size wc w3 := bD.grown nH bD.size (fun j hj => (nP.lt j hj).1)
       clear cX nH nP; have fA : Below wc.heap.size w3 (w3.alloc (.cells #[.string s] 9)) := (Below.refl _ _).alloc pS.size _; have nJ : gZ (w3.alloc (.cells #[.string s] 9)) (w3.heap.size + 1) (some ⟨w3.heap.size, 0, none⟩) 1 [s] := yE w3 s; have kZ := kL.alloc (.cells #[.string s] 9); obtain ⟨v2, w4, mZ, dU, nG⟩ := kS _ wc.heap.size v1 i (L.take i) kZ (w3.heap.size + 1) (some ⟨w3.heap.size, 0, none⟩) 1 1 [s] nJ (fun h => by cases h) (by omega) (Nat.le_trans pS.size fA.size)
       have mC : Below wc.heap.size wc w4 := pS.trans (fA.grown nG (Nat.le_trans pS.size fA.size) (fun j hj => (kZ.lt j hj).1))
       have T4 : gZ w4 wc.heap.size (some ⟨g, 0, none⟩) 0 (L.drop i) := ⟨by rw [List.length_drop]; omega, fun j hj => absurd hj (by omega)⟩
       obtain ⟨v3, w5, mY, lI, nF⟩ := kS w4 wc.heap.size v2 (i + 1) _ dU wc.heap.size (some ⟨g, 0, none⟩) 0 0 (L.drop i) T4 (fun h => by cases h) (by omega) mC.size
       have T7 : Below wc.heap.size wc w5 := mC.grown nF mC.size (fun j hj => (dU.lt j hj).1)
       obtain ⟨g5, c5, rfl⟩ : ∃ g5 c5, v3 = .slice (some ⟨g5, 0, none⟩) (i + 1 + 0) c5 := by
        rcases lI.2 with ⟨_, e2⟩ | ⟨g5, c5, _, e2, _⟩
        ·omega
        ·exact ⟨g5, c5, e2⟩
       have lA : (L.take i ++ [s] ++ L.drop i).length = i + 1 + 0 := by simp; omega
       have i8 : Hid (w5.ownsRow (w.heap.size + 1) 9 1 (.slice (some ⟨g5, 0, none⟩) (i + 1 + 0) c5) (i + 1 + 0) ((L.take i ++ [s] ++ L.drop i).map Value.string)) := I3 lI (by omega)
       have oX : Hid (Below (w.heap.size + 1) w0 w5) := bT.out.trans (T7.mono (by omega))
       have HL5 : Hid ((L.take i ++ [s] ++ L.drop i).length ≤ k + 1) := by have := uB.out; show _ ≤ _; rw [lA]; omega
       have i7 : Hid (∀ q ∈ L.take i ++ [s] ++ L.drop i, ∃ i, i < l.length ∧ q = (aC l i).item) := by
        intro q hq
        simp only [List.mem_append, List.mem_singleton] at hq
        rcases hq with (hq | rfl) | hq
        ·exact oK.out q (List.mem_of_mem_take hq)
        ·exact ⟨k, aJ, lL.out⟩
        ·exact oK.out q (List.mem_of_mem_drop hq)
       clear kL dU lI nG nF pS mC T7 fA nJ kZ T4
       go_upto_region 11 with (at_builtin; refine cY rfl _ _ _ rfl _ _ rfl rfl nA ?_)
       go_upto_region 12 with (at_builtin; refine cY rfl _ _ _ rfl _ _ rfl rfl mZ ?_)
       go_upto_region 4 with (at_builtin; refine cY rfl _ _ _ rfl _ _ rfl rfl mY ?_)
       go_wp2
       go_roundw
       case rel => exact ⟨k + 1, L.take i ++ [s] ++ L.drop i, g5, c5, by omega, by go_num, by first | rw [lA] | (rw [lA]; rfl), HL5, i7, by rw [lA]; exact i8, oX⟩
       case measure => simp [intOf]; omega
      ·have nI : ¬ (c : Int) = (i : Int) := by omega
       obtain ⟨v1, w3, nA, cX, nH⟩ := kS _ wc.heap.size _ 0 [] nP (wc.heap.size) (some ⟨g, 0, none⟩) i c (L.take i) hTk (fun h => by cases h) (by omega) bD.size
       have kL : w3.ownsRow wc.heap.size 9 1 v1 i ((L.take i).map Value.string) := by simpa using cX
       have pS : Below wc.heap.size wc w3 := bD.grown nH bD.size (fun j hj => (nP.lt j hj).1)
       clear cX nH nP; have fA : Below wc.heap.size w3 (w3.alloc (.cells #[.string s] 9)) := (Below.refl _ _).alloc pS.size _; have nJ : gZ (w3.alloc (.cells #[.string s] 9)) (w3.heap.size + 1) (some ⟨w3.heap.size, 0, none⟩) 1 [s] := yE w3 s; have kZ := kL.alloc (.cells #[.string s] 9); obtain ⟨v2, w4, mZ, dU, nG⟩ := kS _ wc.heap.size v1 i (L.take i) kZ (w3.heap.size + 1) (some ⟨w3.heap.size, 0, none⟩) 1 1 [s] nJ (fun h => by cases h) (by omega) (Nat.le_trans pS.size fA.size)
       have mC : Below wc.heap.size wc w4 := pS.trans (fA.grown nG (Nat.le_trans pS.size fA.size) (fun j hj => (kZ.lt j hj).1))
       have T4 : gZ w4 wc.heap.size (some ⟨g, i, none⟩) (L.length - i) (L.drop i) := ((HS2.out.below mC aPq).drop hi); obtain ⟨v3, w5, mY, lI, nF⟩ := kS w4 wc.heap.size v2 (i + 1) _ dU wc.heap.size (some ⟨g, i, none⟩) (L.length - i) (c - i) (L.drop i) T4 (fun h => by cases h) (by omega) mC.size
       have T7 : Below wc.heap.size wc w5 := mC.grown nF mC.size (fun j hj => (dU.lt j hj).1)
       obtain ⟨g5, c5, rfl⟩ : ∃ g5 c5, v3 = .slice (some ⟨g5, 0, none⟩) (i + 1 + (L.length - i)) c5 := by
        rcases lI.2 with ⟨_, e2⟩ | ⟨g5, c5, _, e2, _⟩
        ·omega
        ·exact ⟨g5, c5, e2⟩
       have lA : (L.take i ++ [s] ++ L.drop i).length = i + 1 + (L.length - i) := by simp; omega
       have i8 : Hid (w5.ownsRow (w.heap.size + 1) 9 1 (.slice (some ⟨g5, 0, none⟩) (i + 1 + (L.length - i)) c5) (i + 1 + (L.length - i)) ((L.take i ++ [s] ++ L.drop i).map Value.string)) := I3 lI (by omega)
       have oX : Hid (Below (w.heap.size + 1) w0 w5) := bT.out.trans (T7.mono (by omega))
       have HL5 : Hid ((L.take i ++ [s] ++ L.drop i).length ≤ k + 1) := by have := uB.out; show _ ≤ _; rw [lA]; omega
       have i7 : Hid (∀ q ∈ L.take i ++ [s] ++ L.drop i, ∃ i, i < l.length ∧ q = (aC l i).item) := by
        intro q hq
        simp only [List.mem_append, List.mem_singleton] at hq
        rcases hq with (hq | rfl) | hq
        ·exact oK.out q (List.mem_of_mem_take hq)
        ·exact ⟨k, aJ, lL.out⟩
        ·exact oK.out q (List.mem_of_mem_drop hq)
       clear kL dU lI nG nF pS mC T7 fA nJ kZ T4
       go_upto_region 11 with (at_builtin; refine cY rfl _ _ _ rfl _ _ rfl rfl nA ?_)
       go_upto_region 12 with (at_builtin; refine cY rfl _ _ _ rfl _ _ rfl rfl mZ ?_)
       go_upto_region 4 with (at_builtin; refine cY rfl _ _ _ rfl _ _ rfl rfl mY ?_)
       go_wp2
       go_roundw
       case rel => exact ⟨k + 1, L.take i ++ [s] ++ L.drop i, g5, c5, by omega, by go_num, by first | rw [lA] | (rw [lA]; rfl), HL5, i7, by rw [lA]; exact i8, oX⟩
       case measure => simp [intOf]; omega
     ·go_upto_region 4 with fail
      go_wp2
      go_roundw
      case rel => exact ⟨k + 1, L, g, c, by omega, by go_num, rfl, Nat.le_succ_of_le uB.out, oK, lM, bT⟩
      case measure => simp [intOf]; omega
  ·obtain rfl : k = l.length := by omega
   have zK := aPo (pA HR.out); have HZ := aPo (HB.out.trans (cW.out.mono (by omega)))
   go_wp2
   go_ret
   exact ⟨g, c, L, rfl, uB.out, oK.out, zK.out, HZ.out⟩
end Go.Proofs.YthkagbnpcjidfaaGreatDoor
