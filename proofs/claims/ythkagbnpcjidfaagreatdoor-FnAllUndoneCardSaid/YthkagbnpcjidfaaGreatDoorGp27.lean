/- Walks and mathematics that several claims share, part 27. -/
import Derived.Test.YthkagbnpcjidfaaGreatDoorGp20
import Derived.Deep.CutRange
import Derived.Deep.CutBlock
namespace Go.Proofs.YthkagbnpcjidfaaGreatDoor
set_option maxRecDepth 100000
open Go.RowKit
set_option linter.unusedVariables false
set_option linter.unusedSimpArgs false
def iD (w : World) (B : Nat) (a : Option Addr) (n : Nat) (l : List ByteArray) : Prop :=
 l.length = n ∧ ∀ i, i < n → ∃ b off, a = some ⟨b, off, none⟩ ∧ b < B ∧ w.cell? ⟨b, off + i, none⟩ = some (.string (l.getD i ⟨#[]⟩))
theorem aH1 : (Tryz.prog.info? 9).map (fun i => (i.zero, i.size, i.bytes)) = some (some (.string ⟨#[]⟩), 1, 16) := by kernel_rfl
theorem lN (w : World) (base : Nat) (v : Value) (n : Nat) (xs : List ByteArray) (aY : w.ownsRow base 9 1 v n (xs.map Value.string)) (B : Nat) (a : Option Addr) (m c : Nat) (ys : List ByteArray) (h : iD w B a m ys) (hc : a = none → c = 0) (hn : n + m ≤ 4194304) (xH : base ≤ w.heap.size) :
  ∃ v' w', (Builtin.append_ #[55, 55] 55 #[v, .slice a m c]).run Tryz.prog w = .ok v' w' ∧ w'.ownsRow base 9 1 v' (n + m) ((xs ++ ys).map Value.string) ∧ w.grownBy w' v.ownBlock := by
 obtain ⟨i0, hi, gI, jK, jB⟩ := info_parts aH1
 have hl : ys.length = m := h.1
 rcases a with _ | x
 ·have hm : m = 0 := by
   rcases Nat.eq_zero_or_pos m with g | g
   ·exact g
   ·obtain ⟨_, _, e, _⟩ := h.2 0 g; cases e
  subst hm; have : ys = [] := List.eq_nil_of_length_eq_zero hl; subst this; rw [hc rfl]; exact ⟨v, w, run_append_owned_none (P := Tryz.prog) w base 55 55 9 i0 1 Tryz.underlying55 hi v n _ aY, by simpa using aY, World.grownBy.refl _ _⟩
 ·have yS : ∀ j u, (ys.map Value.string)[j]? = some u → w.cell? (x.add j) = some u := by
   intro j u hu
   have hj : j < ys.length := by
    rcases Nat.lt_or_ge j ys.length with g | g
    ·exact g
    ·rw [List.getElem?_eq_none (by simpa using g)] at hu; cases hu
   obtain ⟨b', iE, e, _, nD⟩ := h.2 j (by omega)
   injection e with e; subst e; rw [tQ, nD]; rw [List.getElem?_map, List.getElem?_eq_getElem hj] at hu; rw [← hu, List.getD_eq_getElem?_getD, List.getElem?_eq_getElem hj]
   rfl
  obtain ⟨v', w', h1, h2, h3, _⟩ := run_append_own (P := Tryz.prog) w base 55 55 9 i0 (.string ⟨#[]⟩) 1 16 Tryz.underlying55 hi gI jK jB rfl (by decide) v n _ aY x m c (ys.map Value.string) (by rw [List.length_map, hl]; omega) yS (by intro u hu; rw [List.mem_map] at hu; obtain ⟨z, _, rfl⟩ := hu; rfl) (by unfold maxLen; omega) (by omega) xH
  exact ⟨v', w', h1, by rw [List.map_append]; exact h2, h3⟩
theorem pB {w : World} {base n c : Nat} {a : Option Addr} {L : List ByteArray} (h : w.ownsRow base 9 1 (.slice a n c) n (L.map Value.string)) : iD w w.heap.size a n L := by
 have hl : L.length = n := by have := h.1; simpa using this
 refine ⟨hl, fun i hi => ?_⟩
 rcases h.2 with ⟨_, e2⟩ | ⟨g, cap, aV, e, hb, hg, hnc, _, hcs, ht⟩
 ·omega
 ·injection e with e1 e2 e3
  subst e1; refine ⟨g, 0, rfl, (aPv hg).1, ?_⟩
  rw [aPx hg]; have h2 : (aV.toList.take (n * 1))[i]? = (L.map Value.string)[i]? := by rw [ht]
  rw [Nat.mul_one, List.getElem?_take_of_lt hi, List.getElem?_map, List.getElem?_eq_getElem (by omega : i < L.length)] at h2
  rw [Nat.zero_add, ← Array.getElem?_toList, h2, List.getD_eq_getElem?_getD, List.getElem?_eq_getElem (by omega)]
  rfl
def aOd (l : List aA) (w : World) (e : Ending) (w' : World) : Prop :=
 ∃ g c L, e = .returned (.slice (some ⟨g, 0, none⟩) L.length c) ∧ L.length ≤ l.length ∧ (∀ s ∈ L, ∃ i, i < l.length ∧ s = (aB l i).item) ∧ iD w' w'.heap.size (some ⟨g, 0, none⟩) L.length L ∧ Below w.heap.size w w'
theorem H7 (w : World) (s : ByteArray) : iD (w.alloc (.cells #[.string s] 9)) (w.heap.size + 1) (some ⟨w.heap.size, 0, none⟩) 1 [s] := by
 refine ⟨rfl, fun i hi => ⟨w.heap.size, 0, rfl, by omega, ?_⟩⟩
 obtain rfl : i = 0 := by omega
 rw [aPx (heap_alloc_new w _)]
 rfl
theorem G9 {w : World} {base aAF n size : Nat} {e : TypeId} {v : Value} {xs : List Value} (h : w.ownsRow base e size v n xs) (hb : aAF ≤ base) : w.ownsRow aAF e size v n xs := by
 refine ⟨h.1, ?_⟩
 rcases h.2 with h2 | ⟨g, cap, aV, e1, h3, r⟩
 ·exact .inl h2
 ·exact .inr ⟨g, cap, aV, e1, by omega, r⟩
theorem iD.below {w w' : World} {B B' : Nat} {a : Option Addr} {n : Nat} {l : List ByteArray} (h : iD w B a n l) (hb : Below B' w w') (hB : B ≤ B') : iD w' B a n l :=
 ⟨h.1, fun i hi => by
  obtain ⟨b, off, e, aW, hc⟩ := h.2 i hi; exact ⟨b, off, e, aW, (World.cell?_of_block (a := ⟨b, off + i, none⟩) (hb.block b (by omega))).trans hc⟩⟩
theorem iD.more {w : World} {B B' : Nat} {a : Option Addr} {n : Nat} {l : List ByteArray} (h : iD w B a n l) (hB : B ≤ B') : iD w B' a n l :=
 ⟨h.1, fun i hi => by
  obtain ⟨b, off, e, aW, hc⟩ := h.2 i hi; exact ⟨b, off, e, by omega, hc⟩⟩
theorem iD.take {w : World} {B : Nat} {a : Option Addr} {n k : Nat} {l : List ByteArray} (h : iD w B a n l) (hk : k ≤ n) : iD w B a k (l.take k) :=
 ⟨by rw [List.length_take, h.1]; omega, fun i hi => by
  obtain ⟨b, off, e, aW, hc⟩ := h.2 i (by omega)
  refine ⟨b, off, e, aW, ?_⟩
  rw [hc, List.getD_eq_getElem?_getD, List.getD_eq_getElem?_getD, List.getElem?_take_of_lt hi]⟩
theorem iD.drop {w : World} {B g : Nat} {n k : Nat} {l : List ByteArray} (h : iD w B (some ⟨g, 0, none⟩) n l) (hk : k ≤ n) : iD w B (some ⟨g, k, none⟩) (n - k) (l.drop k) :=
 ⟨by rw [List.length_drop, h.1], fun i hi => by
  obtain ⟨b, off, e, aW, hc⟩ := h.2 (k + i) (by omega)
  injection e with e; injection e with e1 e2; subst e1 e2; refine ⟨g, k, rfl, aW, ?_⟩
  rw [Nat.zero_add] at hc; rw [hc, List.getD_eq_getElem?_getD, List.getD_eq_getElem?_getD, List.getElem?_drop]⟩
set_option maxHeartbeats 40000000 in
theorem aOv (w : World) (B : Nat) (av ao : Option Addr) (nv cv no co : Nat) (xs : List Int) (l : List aA) (h : bK w B ao no l) (hB : B ≤ w.heap.size) (hn : no ≤ 1048576) (hc : aD xs l = true) :
  Calls Tryz.prog 115 #[.agg #[.slice av nv cv, .slice ao no co]] w (aOd l w) := by
 obtain rfl := h.1
 have HC := aPu hc
 clear hc
 have bC : Below w.heap.size w (w.alloc (.cells #[.slice av nv cv, .slice ao l.length co] 27)) := (Below.refl _ w).alloc aPw _
 have HO := aPu (h.below bC hB)
 have HB := aPu bC
 have HX := aPu (bE (Below.refl _ (w.alloc (.cells #[.slice av nv cv, .slice ao l.length co] 27))))
 have cP : (w.alloc (.cells #[.slice av nv cv, .slice ao l.length co] 27)).heap.size = w.heap.size + 1 := by show (w.heap.push _).size = _; simp
 clear h bC
 go_enter Tryz.func115, Tryz.ntmps115
 go_wp2
 obtain ⟨w0, hw0⟩ : ∃ w0, w0 = w.alloc (.cells #[.slice av nv cv, .slice ao l.length co] 27) := ⟨_, rfl⟩
 rw [← hw0] at HO HB HX cP ⊢
 clear hw0
 have nO := World.ownsRow_made (e := 9) (size := 1) (base := w.heap.size + 1) w0 #[] 0 (by omega) (by unfold maxLen; omega) rfl
 rw [cP] at nO
 have pA := aPu nO
 have HW0 : Hid (Below (w.heap.size + 1) w0 (w0.alloc (.cells #[] 9))) := (Below.refl _ _).alloc (by omega) _
 have qG : w0.heap.size ≤ w.heap.size + 1 := by omega
 have aNC : w.heap.size + 1 ≤ w0.heap.size := by omega
 clear cP nO
 go_loopw [3, 4] (fun v i wr => ∃ (k : Nat) (L : List ByteArray) (g c : Nat), k ≤ l.length ∧ i = .int .i64 (k : Int) ∧ v = .slice (some ⟨g, 0, none⟩) L.length c ∧ Hid (L.length ≤ k) ∧ Hid (∀ s ∈ L, ∃ i, i < l.length ∧ s = (aB l i).item) ∧ Hid (wr.ownsRow (w.heap.size + 1) 9 1 (.slice (some ⟨g, 0, none⟩) L.length c) L.length (L.map Value.string)) ∧ Hid (Below (w.heap.size + 1) w0 wr)) (fun _ i _ => l.length - (intOf i).toNat)
 case atStart => exact ⟨0, [], _, _, Nat.zero_le _, rfl, rfl, Nat.le_refl _, (fun s hs => by cases hs), pA.out, HW0.out⟩
 case round =>
  obtain ⟨k, L, g, c, hk, rfl, rfl, qD, qC, HR, cS⟩ := hrel; have hLk : L.length ≤ l.length := Nat.le_trans qD.out hk; have uG := cS.out.size; have jO : L.length ≤ c := (gB HR.out).1; have cC := aPu ((cS.out.block w.heap.size (by omega)).trans HX.out)
  obtain ⟨c0, c1⟩ := pair_cells cC.out
  by_cases aK : k < l.length
  ·obtain ⟨b, off, rfl, hb, ho⟩ := (HO.out.below cS.out (by omega)).2 k aK
   have hki : (k : Int) < (l.length : Int) := by omega
   have c4 := ho.2.2.2.2.1; obtain ⟨s, hs⟩ : ∃ s, s = (l.getD k aA.zero).item := ⟨_, rfl⟩; rw [← hs] at c4; have lJ : Hid (s = (aB l k).item) := hs; have zD := aPu (pB HR.out); clear ho hs
   go_upto_block 2 with fail
   clear c4 c0 c1
   go_cut [6] from 9 to 67 (fun j wx => wx = wr ∧ ∃ i : Nat, i ≤ L.length ∧ j = .int .i64 (i : Int))
   case first =>
    go_wp2
    go_loop [6] (fun j => ∃ i : Nat, i ≤ L.length ∧ j = .int .i64 (i : Int)) (fun j => L.length - (intOf j).toNat)
    case atStart => exact ⟨0, Nat.zero_le _, rfl⟩
    case round =>
     obtain ⟨i, hi, rfl⟩ := hrel
     by_cases pY : i < L.length
     ·obtain ⟨b2, o2, e2, aG, nD⟩ := zD.out.2 i pY
      injection e2 with e2; injection e2 with e3 e4; subst e3 e4; rw [Nat.zero_add] at nD; obtain ⟨x, hx⟩ : ∃ x, x = L.getD i ⟨#[]⟩ := ⟨_, rfl⟩; rw [← hx] at nD; have hii : (i : Int) < (L.length : Int) := by omega
      clear hx; go_wp2
      ·exact ⟨⟨i + 1, by omega, by go_num⟩, by simp [intOf]; omega⟩
      ·go_meet
       exact ⟨rfl, i, hi, rfl⟩
     ·go_wp2
      go_meet
      exact ⟨rfl, i, hi, rfl⟩
   case rest =>
    obtain ⟨hwc, i, hi, rfl⟩ := hcut; subst hwc; obtain ⟨c0, c1⟩ := pair_cells cC.out
    go_upto_region 9 with fail
    go_cut [53] from 9 to 67 (fun bv wx => (∃ bb : Bool, bv = .bool bb) ∧ Hid (Below wc.heap.size wc wx))
    case first =>
     by_cases pY : i < L.length
     ·obtain ⟨b2, o2, e2, aG, nD⟩ := zD.out.2 i pY
      injection e2 with e2; injection e2 with e3 e4; subst e3 e4; rw [Nat.zero_add] at nD; obtain ⟨x, hx⟩ : ∃ x, x = L.getD i ⟨#[]⟩ := ⟨_, rfl⟩; rw [← hx] at nD; have hii : (i : Int) < (L.length : Int) := by omega
      clear hx
      by_cases mJ : (x.toList == s.toList) = true
      ·go_wp2
       go_meet
       exact ⟨⟨_, rfl⟩, Below.refl _ _⟩
      ·have aNu : (x.toList == s.toList) = false := by simpa using mJ
       clear mJ
       go_wp2_with fail
       refine (X9 wc B av _ nv cv l.length co xs l s (HO.out.below cS.out (by omega)) (by omega) hn HC.out).mono ?_
       rintro e w2 ⟨rfl, aR⟩; go_wp2
       all_goals (go_meet; exact ⟨⟨_, rfl⟩, aR⟩)
     ·go_wp2_with fail
      refine (X9 wc B av _ nv cv l.length co xs l s (HO.out.below cS.out (by omega)) (by omega) hn HC.out).mono ?_
      rintro e w2 ⟨rfl, aR⟩; go_wp2
      all_goals (go_meet; exact ⟨⟨_, rfl⟩, aR⟩)
    case rest =>
     obtain ⟨⟨bb, rfl⟩, HW⟩ := hcut; clear c0 c1; have hw2 := HW.out.size; have bP := aPu (cS.out.trans (HW.out.mono (by omega)))
     have kP : Hid (wc.ownsRow (w.heap.size + 1) 9 1 (.slice (some ⟨g, 0, none⟩) L.length c) L.length (L.map Value.string)) := HR.out.kept (row := none) ⟨HW.out.os, HW.out.tape, HW.out.output, HW.out.size, fun j hj _ => HW.out.block j hj⟩ (.inr (by simp [Value.ownBlock]))
     have HS2 := aPu (pB kP.out); cases bb
     ·have aNV : i ≤ c := by omega
      have bC : Below wc.heap.size wc (wc.alloc (.cells #[] 9)) := bl; have nO : (wc.alloc (.cells #[] 9)).ownsRow wc.heap.size 9 1 (.slice (some ⟨wc.heap.size, 0, none⟩) 0 0) 0 (([] : List ByteArray).map Value.string) := World.ownsRow_made wc #[] 0 aPw (by unfold maxLen; omega) rfl
      have hTk := (HS2.out.below bC aPw).take hi
      go_upto_region 10 with fail
      by_cases hci : i = c
      ·obtain rfl : i = c := hci
       have hiL : L.length ≤ i := by omega
       obtain ⟨v1, w3, mS, cV, nC⟩ := lN _ wc.heap.size _ 0 [] nO (wc.heap.size) (some ⟨g, 0, none⟩) i i (L.take i) hTk (fun h => by cases h) (by omega) bC.size
       have kI : w3.ownsRow wc.heap.size 9 1 v1 i ((L.take i).map Value.string) := by simpa using cV
       have pO : Below wc.heap.size wc w3 := bC.grown nC bC.size (fun j hj => (nO.lt j hj).1)
       clear cV nC nO; have gQ : Below wc.heap.size w3 (w3.alloc (.cells #[.string s] 9)) := (Below.refl _ _).alloc pO.size _; have nF : iD (w3.alloc (.cells #[.string s] 9)) (w3.heap.size + 1) (some ⟨w3.heap.size, 0, none⟩) 1 [s] := H7 w3 s; have mW := kI.alloc (.cells #[.string s] 9); obtain ⟨v2, w4, mQ, dN, nA⟩ := lN _ wc.heap.size v1 i (L.take i) mW (w3.heap.size + 1) (some ⟨w3.heap.size, 0, none⟩) 1 1 [s] nF (fun h => by cases h) (by omega) (Nat.le_trans pO.size gQ.size)
       have lT : Below wc.heap.size wc w4 := pO.trans (gQ.grown nA (Nat.le_trans pO.size gQ.size) (fun j hj => (mW.lt j hj).1))
       have T2 : iD w4 wc.heap.size (some ⟨g, 0, none⟩) 0 (L.drop i) := ⟨by rw [List.length_drop]; omega, fun j hj => absurd hj (by omega)⟩
       obtain ⟨v3, w5, mP, mX, mZ⟩ := lN w4 wc.heap.size v2 (i + 1) _ dN wc.heap.size (some ⟨g, 0, none⟩) 0 0 (L.drop i) T2 (fun h => by cases h) (by omega) lT.size
       have T5 : Below wc.heap.size wc w5 := lT.grown mZ lT.size (fun j hj => (dN.lt j hj).1)
       obtain ⟨g5, c5, rfl⟩ : ∃ g5 c5, v3 = .slice (some ⟨g5, 0, none⟩) (i + 1 + 0) c5 := by
        rcases mX.2 with ⟨_, e2⟩ | ⟨g5, c5, _, e2, _⟩
        ·omega
        ·exact ⟨g5, c5, e2⟩
       have oK : (L.take i ++ [s] ++ L.drop i).length = i + 1 + 0 := by simp; omega
       have j5 : Hid (w5.ownsRow (w.heap.size + 1) 9 1 (.slice (some ⟨g5, 0, none⟩) (i + 1 + 0) c5) (i + 1 + 0) ((L.take i ++ [s] ++ L.drop i).map Value.string)) := G9 mX (by omega)
       have oB : Hid (Below (w.heap.size + 1) w0 w5) := bP.out.trans (T5.mono (by omega))
       have HL5 : Hid ((L.take i ++ [s] ++ L.drop i).length ≤ k + 1) := by have := qD.out; show _ ≤ _; rw [oK]; omega
       have j4 : Hid (∀ q ∈ L.take i ++ [s] ++ L.drop i, ∃ i, i < l.length ∧ q = (aB l i).item) := by
        intro q hq
        simp only [List.mem_append, List.mem_singleton] at hq
        rcases hq with (hq | rfl) | hq
        ·exact qC.out q (List.mem_of_mem_take hq)
        ·exact ⟨k, aK, lJ.out⟩
        ·exact qC.out q (List.mem_of_mem_drop hq)
       clear kI dN mX nA mZ pO lT T5 gQ nF mW T2
       go_upto_region 11 with (at_builtin; refine dB rfl _ _ _ rfl _ _ rfl rfl mS ?_)
       go_upto_region 12 with (at_builtin; refine dB rfl _ _ _ rfl _ _ rfl rfl mQ ?_)
       go_upto_region 4 with (at_builtin; refine dB rfl _ _ _ rfl _ _ rfl rfl mP ?_)
       go_wp2
       go_roundw
       case rel => exact ⟨k + 1, L.take i ++ [s] ++ L.drop i, g5, c5, by omega, by go_num, by first | rw [oK] | (rw [oK]; rfl), HL5, j4, by rw [oK]; exact j5, oB⟩
       case measure => simp [intOf]; omega
      ·have nD : ¬ (c : Int) = (i : Int) := by omega
       obtain ⟨v1, w3, mS, cV, nC⟩ := lN _ wc.heap.size _ 0 [] nO (wc.heap.size) (some ⟨g, 0, none⟩) i c (L.take i) hTk (fun h => by cases h) (by omega) bC.size
       have kI : w3.ownsRow wc.heap.size 9 1 v1 i ((L.take i).map Value.string) := by simpa using cV
       have pO : Below wc.heap.size wc w3 := bC.grown nC bC.size (fun j hj => (nO.lt j hj).1)
       clear cV nC nO; have gQ : Below wc.heap.size w3 (w3.alloc (.cells #[.string s] 9)) := (Below.refl _ _).alloc pO.size _; have nF : iD (w3.alloc (.cells #[.string s] 9)) (w3.heap.size + 1) (some ⟨w3.heap.size, 0, none⟩) 1 [s] := H7 w3 s; have mW := kI.alloc (.cells #[.string s] 9); obtain ⟨v2, w4, mQ, dN, nA⟩ := lN _ wc.heap.size v1 i (L.take i) mW (w3.heap.size + 1) (some ⟨w3.heap.size, 0, none⟩) 1 1 [s] nF (fun h => by cases h) (by omega) (Nat.le_trans pO.size gQ.size)
       have lT : Below wc.heap.size wc w4 := pO.trans (gQ.grown nA (Nat.le_trans pO.size gQ.size) (fun j hj => (mW.lt j hj).1))
       have T2 : iD w4 wc.heap.size (some ⟨g, i, none⟩) (L.length - i) (L.drop i) := ((HS2.out.below lT aPw).drop hi); obtain ⟨v3, w5, mP, mX, mZ⟩ := lN w4 wc.heap.size v2 (i + 1) _ dN wc.heap.size (some ⟨g, i, none⟩) (L.length - i) (c - i) (L.drop i) T2 (fun h => by cases h) (by omega) lT.size
       have T5 : Below wc.heap.size wc w5 := lT.grown mZ lT.size (fun j hj => (dN.lt j hj).1)
       obtain ⟨g5, c5, rfl⟩ : ∃ g5 c5, v3 = .slice (some ⟨g5, 0, none⟩) (i + 1 + (L.length - i)) c5 := by
        rcases mX.2 with ⟨_, e2⟩ | ⟨g5, c5, _, e2, _⟩
        ·omega
        ·exact ⟨g5, c5, e2⟩
       have oK : (L.take i ++ [s] ++ L.drop i).length = i + 1 + (L.length - i) := by simp; omega
       have j5 : Hid (w5.ownsRow (w.heap.size + 1) 9 1 (.slice (some ⟨g5, 0, none⟩) (i + 1 + (L.length - i)) c5) (i + 1 + (L.length - i)) ((L.take i ++ [s] ++ L.drop i).map Value.string)) := G9 mX (by omega)
       have oB : Hid (Below (w.heap.size + 1) w0 w5) := bP.out.trans (T5.mono (by omega))
       have HL5 : Hid ((L.take i ++ [s] ++ L.drop i).length ≤ k + 1) := by have := qD.out; show _ ≤ _; rw [oK]; omega
       have j4 : Hid (∀ q ∈ L.take i ++ [s] ++ L.drop i, ∃ i, i < l.length ∧ q = (aB l i).item) := by
        intro q hq
        simp only [List.mem_append, List.mem_singleton] at hq
        rcases hq with (hq | rfl) | hq
        ·exact qC.out q (List.mem_of_mem_take hq)
        ·exact ⟨k, aK, lJ.out⟩
        ·exact qC.out q (List.mem_of_mem_drop hq)
       clear kI dN mX nA mZ pO lT T5 gQ nF mW T2
       go_upto_region 11 with (at_builtin; refine dB rfl _ _ _ rfl _ _ rfl rfl mS ?_)
       go_upto_region 12 with (at_builtin; refine dB rfl _ _ _ rfl _ _ rfl rfl mQ ?_)
       go_upto_region 4 with (at_builtin; refine dB rfl _ _ _ rfl _ _ rfl rfl mP ?_)
       go_wp2
       go_roundw
       case rel => exact ⟨k + 1, L.take i ++ [s] ++ L.drop i, g5, c5, by omega, by go_num, by first | rw [oK] | (rw [oK]; rfl), HL5, j4, by rw [oK]; exact j5, oB⟩
       case measure => simp [intOf]; omega
     ·go_upto_region 4 with fail
      go_wp2
      go_roundw
      case rel => exact ⟨k + 1, L, g, c, by omega, by go_num, rfl, Nat.le_succ_of_le qD.out, qC, kP, bP⟩
      case measure => simp [intOf]; omega
  ·obtain rfl : k = l.length := by omega
   have zD := aPu (pB HR.out); have HZ := aPu (HB.out.trans (cS.out.mono (by omega)))
   go_wp2
   go_ret
   exact ⟨g, c, L, rfl, qD.out, qC.out, zD.out, HZ.out⟩
end Go.Proofs.YthkagbnpcjidfaaGreatDoor
