/- Walks and mathematics that several claims share, part 24. -/
import Derived.Test.YthkagbnpcjidfaaGreatDoorGq20
import Derived.Deep.CutRange
import Derived.Deep.CutBlock
namespace Go.Proofs.YthkagbnpcjidfaaGreatDoor
set_option maxRecDepth 100000
open Go.RowKit
set_option linter.unusedVariables false
set_option linter.unusedSimpArgs false
def iH (w : World) (B : Nat) (a : Option Addr) (n : Nat) (l : List ByteArray) : Prop :=
 l.length = n ∧ ∀ i, i < n → ∃ b off, a = some ⟨b, off, none⟩ ∧ b < B ∧ w.cell? ⟨b, off + i, none⟩ = some (.string (l.getD i ⟨#[]⟩))
theorem aJL : (Tryz.prog.info? 9).map (fun i => (i.zero, i.size, i.bytes)) = some (some (.string ⟨#[]⟩), 1, 16) := by kernel_rfl
theorem lY (w : World) (base : Nat) (v : Value) (n : Nat) (xs : List ByteArray) (aZ : w.ownsRow base 9 1 v n (xs.map Value.string)) (B : Nat) (a : Option Addr) (m c : Nat) (ys : List ByteArray) (h : iH w B a m ys) (hc : a = none → c = 0) (hn : n + m ≤ 4194304) (zM : base ≤ w.heap.size) :
  ∃ v' w', (Builtin.append_ #[55, 55] 55 #[v, .slice a m c]).run Tryz.prog w = .ok v' w' ∧ w'.ownsRow base 9 1 v' (n + m) ((xs ++ ys).map Value.string) ∧ w.grownBy w' v.ownBlock := by
 obtain ⟨i0, hi, gR, kH, jN⟩ := info_parts aJL
 have hl : ys.length = m := h.1
 rcases a with _ | x
 ·have hm : m = 0 := by
   rcases Nat.eq_zero_or_pos m with g | g
   ·exact g
   ·obtain ⟨_, _, e, _⟩ := h.2 0 g; cases e
  subst hm; have : ys = [] := List.eq_nil_of_length_eq_zero hl; subst this; rw [hc rfl]; exact ⟨v, w, run_append_owned_none (P := Tryz.prog) w base 55 55 9 i0 1 Tryz.underlying55 hi v n _ aZ, by simpa using aZ, World.grownBy.refl _ _⟩
 ·have B9 : ∀ j u, (ys.map Value.string)[j]? = some u → w.cell? (x.add j) = some u := by
   intro j u hu
   have hj : j < ys.length := by
    rcases Nat.lt_or_ge j ys.length with g | g
    ·exact g
    ·rw [List.getElem?_eq_none (by simpa using g)] at hu; cases hu
   obtain ⟨b', iI, e, _, oB⟩ := h.2 j (by omega)
   injection e with e; subst e; rw [uB, oB]; rw [List.getElem?_map, List.getElem?_eq_getElem hj] at hu; rw [← hu, List.getD_eq_getElem?_getD, List.getElem?_eq_getElem hj]
   rfl
  obtain ⟨v', w', h1, h2, h3, _⟩ := run_append_own (P := Tryz.prog) w base 55 55 9 i0 (.string ⟨#[]⟩) 1 16 Tryz.underlying55 hi gR kH jN rfl (by decide) v n _ aZ x m c (ys.map Value.string) (by rw [List.length_map, hl]; omega) B9 (by intro u hu; rw [List.mem_map] at hu; obtain ⟨z, _, rfl⟩ := hu; rfl) (by unfold maxLen; omega) (by omega) zM
  exact ⟨v', w', h1, by rw [List.map_append]; exact h2, h3⟩
theorem pX {w : World} {base n c : Nat} {a : Option Addr} {L : List ByteArray} (h : w.ownsRow base 9 1 (.slice a n c) n (L.map Value.string)) : iH w w.heap.size a n L := by
 have hl : L.length = n := by have := h.1; simpa using this
 refine ⟨hl, fun i hi => ?_⟩
 rcases h.2 with ⟨_, e2⟩ | ⟨g, cap, aY, e, hb, hg, hnc, _, hcs, ht⟩
 ·omega
 ·injection e with e1 e2 e3
  subst e1; refine ⟨g, 0, rfl, (aRq hg).1, ?_⟩
  rw [aRs hg]; have h2 : (aY.toList.take (n * 1))[i]? = (L.map Value.string)[i]? := by rw [ht]
  rw [Nat.mul_one, List.getElem?_take_of_lt hi, List.getElem?_map, List.getElem?_eq_getElem (by omega : i < L.length)] at h2
  rw [Nat.zero_add, ← Array.getElem?_toList, h2, List.getD_eq_getElem?_getD, List.getElem?_eq_getElem (by omega)]
  rfl
def aQc (l : List aA) (w : World) (e : Ending) (w' : World) : Prop :=
 ∃ g c L, e = .returned (.slice (some ⟨g, 0, none⟩) L.length c) ∧ L.length ≤ l.length ∧ (∀ s ∈ L, ∃ i, i < l.length ∧ s = (aB l i).item) ∧ iH w' w'.heap.size (some ⟨g, 0, none⟩) L.length L ∧ Below w.heap.size w w'
theorem P5 (w : World) (s : ByteArray) : iH (w.alloc (.cells #[.string s] 9)) (w.heap.size + 1) (some ⟨w.heap.size, 0, none⟩) 1 [s] := by
 refine ⟨rfl, fun i hi => ⟨w.heap.size, 0, rfl, by omega, ?_⟩⟩
 obtain rfl : i = 0 := by omega
 rw [aRs (heap_alloc_new w _)]
 rfl
theorem P3 {w : World} {base aB5 n size : Nat} {e : TypeId} {v : Value} {xs : List Value} (h : w.ownsRow base e size v n xs) (hb : aB5 ≤ base) : w.ownsRow aB5 e size v n xs := by
 refine ⟨h.1, ?_⟩
 rcases h.2 with h2 | ⟨g, cap, aY, e1, h3, r⟩
 ·exact .inl h2
 ·exact .inr ⟨g, cap, aY, e1, by omega, r⟩
theorem iH.below {w w' : World} {B B' : Nat} {a : Option Addr} {n : Nat} {l : List ByteArray} (h : iH w B a n l) (hb : Below B' w w') (hB : B ≤ B') : iH w' B a n l :=
 ⟨h.1, fun i hi => by
  obtain ⟨b, off, e, aV, hc⟩ := h.2 i hi; exact ⟨b, off, e, aV, (World.cell?_of_block (a := ⟨b, off + i, none⟩) (hb.block b (by omega))).trans hc⟩⟩
theorem iH.more {w : World} {B B' : Nat} {a : Option Addr} {n : Nat} {l : List ByteArray} (h : iH w B a n l) (hB : B ≤ B') : iH w B' a n l :=
 ⟨h.1, fun i hi => by
  obtain ⟨b, off, e, aV, hc⟩ := h.2 i hi; exact ⟨b, off, e, by omega, hc⟩⟩
theorem iH.take {w : World} {B : Nat} {a : Option Addr} {n k : Nat} {l : List ByteArray} (h : iH w B a n l) (hk : k ≤ n) : iH w B a k (l.take k) :=
 ⟨by rw [List.length_take, h.1]; omega, fun i hi => by
  obtain ⟨b, off, e, aV, hc⟩ := h.2 i (by omega)
  refine ⟨b, off, e, aV, ?_⟩
  rw [hc, List.getD_eq_getElem?_getD, List.getD_eq_getElem?_getD, List.getElem?_take_of_lt hi]⟩
theorem iH.drop {w : World} {B g : Nat} {n k : Nat} {l : List ByteArray} (h : iH w B (some ⟨g, 0, none⟩) n l) (hk : k ≤ n) : iH w B (some ⟨g, k, none⟩) (n - k) (l.drop k) :=
 ⟨by rw [List.length_drop, h.1], fun i hi => by
  obtain ⟨b, off, e, aV, hc⟩ := h.2 (k + i) (by omega)
  injection e with e; injection e with e1 e2; subst e1 e2; refine ⟨g, k, rfl, aV, ?_⟩
  rw [Nat.zero_add] at hc; rw [hc, List.getD_eq_getElem?_getD, List.getD_eq_getElem?_getD, List.getElem?_drop]⟩
set_option maxHeartbeats 40000000 in
theorem aQt (w : World) (B : Nat) (av ao : Option Addr) (nv cv no co : Nat) (xs : List Int) (l : List aA) (h : bR w B ao no l) (hB : B ≤ w.heap.size) (hn : no ≤ 1048576) (hc : aD xs l = true) :
  Calls Tryz.prog 115 #[.agg #[.slice av nv cv, .slice ao no co]] w (aQc l w) := by
 obtain rfl := h.1
 have HC := aRp hc
 clear hc
 have bG : Below w.heap.size w (w.alloc (.cells #[.slice av nv cv, .slice ao l.length co] 27)) := (Below.refl _ w).alloc aRr _
 have HO := aRp (h.below bG hB)
 have HB := aRp bG
 have HX := aRp (bM (Below.refl _ (w.alloc (.cells #[.slice av nv cv, .slice ao l.length co] 27))))
 have dA : (w.alloc (.cells #[.slice av nv cv, .slice ao l.length co] 27)).heap.size = w.heap.size + 1 := by show (w.heap.push _).size = _; simp
 clear h bG
 go_enter Tryz.func115, Tryz.ntmps115
 go_wp2
 obtain ⟨w0, hw0⟩ : ∃ w0, w0 = w.alloc (.cells #[.slice av nv cv, .slice ao l.length co] 27) := ⟨_, rfl⟩
 rw [← hw0] at HO HB HX dA ⊢
 clear hw0
 have oL := World.ownsRow_made (e := 9) (size := 1) (base := w.heap.size + 1) w0 #[] 0 (by omega) (by unfold maxLen; omega) rfl
 rw [dA] at oL
 have nJ := aRp oL
 have HW0 : Hid (Below (w.heap.size + 1) w0 (w0.alloc (.cells #[] 9))) := (Below.refl _ _).alloc (by omega) _
 have rB : w0.heap.size ≤ w.heap.size + 1 := by omega
 have aPx : w.heap.size + 1 ≤ w0.heap.size := by omega
 clear dA oL
 go_loopw [3, 4] (fun v i wr => ∃ (k : Nat) (L : List ByteArray) (g c : Nat), k ≤ l.length ∧ i = .int .i64 (k : Int) ∧ v = .slice (some ⟨g, 0, none⟩) L.length c ∧ Hid (L.length ≤ k) ∧ Hid (∀ s ∈ L, ∃ i, i < l.length ∧ s = (aB l i).item) ∧ Hid (wr.ownsRow (w.heap.size + 1) 9 1 (.slice (some ⟨g, 0, none⟩) L.length c) L.length (L.map Value.string)) ∧ Hid (Below (w.heap.size + 1) w0 wr)) (fun _ i _ => l.length - (intOf i).toNat)
 case atStart => exact ⟨0, [], _, _, Nat.zero_le _, rfl, rfl, Nat.le_refl _, (fun s hs => by cases hs), nJ.out, HW0.out⟩
 case round =>
  obtain ⟨k, L, g, c, hk, rfl, rfl, vR, qY, HR, eE⟩ := hrel; have hLk : L.length ≤ l.length := Nat.le_trans vR.out hk; have vI := eE.out.size; have jQ : L.length ≤ c := (fY HR.out).1; have cG := aRp ((eE.out.block w.heap.size (by omega)).trans HX.out)
  obtain ⟨c0, c1⟩ := pair_cells cG.out
  by_cases aM : k < l.length
  ·obtain ⟨b, off, rfl, hb, ho⟩ := (HO.out.below eE.out (by omega)).2 k aM
   have hki : (k : Int) < (l.length : Int) := by omega
   have c4 := ho.2.2.2.2.1; obtain ⟨s, hs⟩ : ∃ s, s = (l.getD k aA.zero).item := ⟨_, rfl⟩; rw [← hs] at c4; have lR : Hid (s = (aB l k).item) := hs; have E6 := aRp (pX HR.out); clear ho hs
   go_upto_block 2 with fail
   clear c4 c0 c1
   go_cut [6] from 9 to 67 (fun j wx => wx = wr ∧ ∃ i : Nat, i ≤ L.length ∧ j = .int .i64 (i : Int))
   case first =>
    go_wp2
    go_loop [6] (fun j => ∃ i : Nat, i ≤ L.length ∧ j = .int .i64 (i : Int)) (fun j => L.length - (intOf j).toNat)
    case atStart => exact ⟨0, Nat.zero_le _, rfl⟩
    case round =>
     obtain ⟨i, hi, rfl⟩ := hrel
     by_cases qV : i < L.length
     ·obtain ⟨b2, o2, e2, aI, oB⟩ := E6.out.2 i qV
      injection e2 with e2; injection e2 with e3 e4; subst e3 e4; rw [Nat.zero_add] at oB; obtain ⟨x, hx⟩ : ∃ x, x = L.getD i ⟨#[]⟩ := ⟨_, rfl⟩; rw [← hx] at oB; have hii : (i : Int) < (L.length : Int) := by omega
      clear hx; go_wp2
      ·exact ⟨⟨i + 1, by omega, by go_num⟩, by simp [intOf]; omega⟩
      ·go_meet
       exact ⟨rfl, i, hi, rfl⟩
     ·go_wp2
      go_meet
      exact ⟨rfl, i, hi, rfl⟩
   case rest =>
    obtain ⟨hwc, i, hi, rfl⟩ := hcut; subst hwc; obtain ⟨c0, c1⟩ := pair_cells cG.out
    go_upto_region 9 with fail
    go_cut [53] from 9 to 67 (fun bv wx => (∃ bb : Bool, bv = .bool bb) ∧ Hid (Below wc.heap.size wc wx))
    case first =>
     by_cases qV : i < L.length
     ·obtain ⟨b2, o2, e2, aI, oB⟩ := E6.out.2 i qV
      injection e2 with e2; injection e2 with e3 e4; subst e3 e4; rw [Nat.zero_add] at oB; obtain ⟨x, hx⟩ : ∃ x, x = L.getD i ⟨#[]⟩ := ⟨_, rfl⟩; rw [← hx] at oB; have hii : (i : Int) < (L.length : Int) := by omega
      clear hx
      by_cases nH : (x.toList == s.toList) = true
      ·go_wp2
       go_meet
       exact ⟨⟨_, rfl⟩, Below.refl _ _⟩
      ·have aPp : (x.toList == s.toList) = false := by simpa using nH
       clear nH
       go_wp2_with fail
       refine (aAv wc B av _ nv cv l.length co xs l s (HO.out.below eE.out (by omega)) (by omega) hn HC.out).mono ?_
       rintro e w2 ⟨rfl, aS⟩; go_wp2
       all_goals (go_meet; exact ⟨⟨_, rfl⟩, aS⟩)
     ·go_wp2_with fail
      refine (aAv wc B av _ nv cv l.length co xs l s (HO.out.below eE.out (by omega)) (by omega) hn HC.out).mono ?_
      rintro e w2 ⟨rfl, aS⟩; go_wp2
      all_goals (go_meet; exact ⟨⟨_, rfl⟩, aS⟩)
    case rest =>
     obtain ⟨⟨bb, rfl⟩, HW⟩ := hcut; clear c0 c1; have hw2 := HW.out.size; have cA := aRp (eE.out.trans (HW.out.mono (by omega)))
     have lS : Hid (wc.ownsRow (w.heap.size + 1) 9 1 (.slice (some ⟨g, 0, none⟩) L.length c) L.length (L.map Value.string)) := HR.out.kept (row := none) ⟨HW.out.os, HW.out.tape, HW.out.output, HW.out.size, fun j hj _ => HW.out.block j hj⟩ (.inr (by simp [Value.ownBlock]))
     have HS2 := aRp (pX lS.out); cases bb
     ·have aPT : i ≤ c := by omega
      have bG : Below wc.heap.size wc (wc.alloc (.cells #[] 9)) := bl; have oL : (wc.alloc (.cells #[] 9)).ownsRow wc.heap.size 9 1 (.slice (some ⟨wc.heap.size, 0, none⟩) 0 0) 0 (([] : List ByteArray).map Value.string) := World.ownsRow_made wc #[] 0 aRr (by unfold maxLen; omega) rfl
      have hTk := (HS2.out.below bG aRr).take hi
      go_upto_region 10 with fail
      by_cases hci : i = c
      ·obtain rfl : i = c := hci
       have hiL : L.length ≤ i := by omega
       obtain ⟨v1, w3, nP, cR, oA⟩ := lY _ wc.heap.size _ 0 [] oL (wc.heap.size) (some ⟨g, 0, none⟩) i i (L.take i) hTk (fun h => by cases h) (by omega) bG.size
       have kP : w3.ownsRow wc.heap.size 9 1 v1 i ((L.take i).map Value.string) := by simpa using cR
       have qN : Below wc.heap.size wc w3 := bG.grown oA bG.size (fun j hj => (oL.lt j hj).1)
       clear cR oA oL; have gL : Below wc.heap.size w3 (w3.alloc (.cells #[.string s] 9)) := (Below.refl _ _).alloc qN.size _; have oC : iH (w3.alloc (.cells #[.string s] 9)) (w3.heap.size + 1) (some ⟨w3.heap.size, 0, none⟩) 1 [s] := P5 w3 s; have nU := kP.alloc (.cells #[.string s] 9); obtain ⟨v2, w4, nO, dL, nZ⟩ := lY _ wc.heap.size v1 i (L.take i) nU (w3.heap.size + 1) (some ⟨w3.heap.size, 0, none⟩) 1 1 [s] oC (fun h => by cases h) (by omega) (Nat.le_trans qN.size gL.size)
       have mL : Below wc.heap.size wc w4 := qN.trans (gL.grown nZ (Nat.le_trans qN.size gL.size) (fun j hj => (nU.lt j hj).1))
       have p7 : iH w4 wc.heap.size (some ⟨g, 0, none⟩) 0 (L.drop i) := ⟨by rw [List.length_drop]; omega, fun j hj => absurd hj (by omega)⟩
       obtain ⟨v3, w5, nN, nV, nY⟩ := lY w4 wc.heap.size v2 (i + 1) _ dL wc.heap.size (some ⟨g, 0, none⟩) 0 0 (L.drop i) p7 (fun h => by cases h) (by omega) mL.size
       have q5 : Below wc.heap.size wc w5 := mL.grown nY mL.size (fun j hj => (dL.lt j hj).1)
       obtain ⟨g5, c5, rfl⟩ : ∃ g5 c5, v3 = .slice (some ⟨g5, 0, none⟩) (i + 1 + 0) c5 := by
        rcases nV.2 with ⟨_, e2⟩ | ⟨g5, c5, _, e2, _⟩
        ·omega
        ·exact ⟨g5, c5, e2⟩
       have pC : (L.take i ++ [s] ++ L.drop i).length = i + 1 + 0 := by simp; omega
       have HR5 : Hid (w5.ownsRow (w.heap.size + 1) 9 1 (.slice (some ⟨g5, 0, none⟩) (i + 1 + 0) c5) (i + 1 + 0) ((L.take i ++ [s] ++ L.drop i).map Value.string)) := P3 nV (by omega)
       have kL : Hid (Below (w.heap.size + 1) w0 w5) := cA.out.trans (q5.mono (by omega))
       have HL5 : Hid ((L.take i ++ [s] ++ L.drop i).length ≤ k + 1) := by have := vR.out; show _ ≤ _; rw [pC]; omega
       have J2 : Hid (∀ q ∈ L.take i ++ [s] ++ L.drop i, ∃ i, i < l.length ∧ q = (aB l i).item) := by
        intro q hq
        simp only [List.mem_append, List.mem_singleton] at hq
        rcases hq with (hq | rfl) | hq
        ·exact qY.out q (List.mem_of_mem_take hq)
        ·exact ⟨k, aM, lR.out⟩
        ·exact qY.out q (List.mem_of_mem_drop hq)
       clear kP dL nV nZ nY qN mL q5 gL oC nU p7
       go_upto_region 11 with (at_builtin; refine dB rfl _ _ _ rfl _ _ rfl rfl nP ?_)
       go_upto_region 12 with (at_builtin; refine dB rfl _ _ _ rfl _ _ rfl rfl nO ?_)
       go_upto_region 4 with (at_builtin; refine dB rfl _ _ _ rfl _ _ rfl rfl nN ?_)
       go_wp2
       go_roundw
       case rel => exact ⟨k + 1, L.take i ++ [s] ++ L.drop i, g5, c5, by omega, by go_num, by first | rw [pC] | (rw [pC]; rfl), HL5, J2, by rw [pC]; exact HR5, kL⟩
       case measure => simp [intOf]; omega
      ·have oB : ¬ (c : Int) = (i : Int) := by omega
       obtain ⟨v1, w3, nP, cR, oA⟩ := lY _ wc.heap.size _ 0 [] oL (wc.heap.size) (some ⟨g, 0, none⟩) i c (L.take i) hTk (fun h => by cases h) (by omega) bG.size
       have kP : w3.ownsRow wc.heap.size 9 1 v1 i ((L.take i).map Value.string) := by simpa using cR
       have qN : Below wc.heap.size wc w3 := bG.grown oA bG.size (fun j hj => (oL.lt j hj).1)
       clear cR oA oL; have gL : Below wc.heap.size w3 (w3.alloc (.cells #[.string s] 9)) := (Below.refl _ _).alloc qN.size _; have oC : iH (w3.alloc (.cells #[.string s] 9)) (w3.heap.size + 1) (some ⟨w3.heap.size, 0, none⟩) 1 [s] := P5 w3 s; have nU := kP.alloc (.cells #[.string s] 9); obtain ⟨v2, w4, nO, dL, nZ⟩ := lY _ wc.heap.size v1 i (L.take i) nU (w3.heap.size + 1) (some ⟨w3.heap.size, 0, none⟩) 1 1 [s] oC (fun h => by cases h) (by omega) (Nat.le_trans qN.size gL.size)
       have mL : Below wc.heap.size wc w4 := qN.trans (gL.grown nZ (Nat.le_trans qN.size gL.size) (fun j hj => (nU.lt j hj).1))
       have p7 : iH w4 wc.heap.size (some ⟨g, i, none⟩) (L.length - i) (L.drop i) := ((HS2.out.below mL aRr).drop hi); obtain ⟨v3, w5, nN, nV, nY⟩ := lY w4 wc.heap.size v2 (i + 1) _ dL wc.heap.size (some ⟨g, i, none⟩) (L.length - i) (c - i) (L.drop i) p7 (fun h => by cases h) (by omega) mL.size
       have q5 : Below wc.heap.size wc w5 := mL.grown nY mL.size (fun j hj => (dL.lt j hj).1)
       obtain ⟨g5, c5, rfl⟩ : ∃ g5 c5, v3 = .slice (some ⟨g5, 0, none⟩) (i + 1 + (L.length - i)) c5 := by
        rcases nV.2 with ⟨_, e2⟩ | ⟨g5, c5, _, e2, _⟩
        ·omega
        ·exact ⟨g5, c5, e2⟩
       have pC : (L.take i ++ [s] ++ L.drop i).length = i + 1 + (L.length - i) := by simp; omega
       have HR5 : Hid (w5.ownsRow (w.heap.size + 1) 9 1 (.slice (some ⟨g5, 0, none⟩) (i + 1 + (L.length - i)) c5) (i + 1 + (L.length - i)) ((L.take i ++ [s] ++ L.drop i).map Value.string)) := P3 nV (by omega)
       have kL : Hid (Below (w.heap.size + 1) w0 w5) := cA.out.trans (q5.mono (by omega))
       have HL5 : Hid ((L.take i ++ [s] ++ L.drop i).length ≤ k + 1) := by have := vR.out; show _ ≤ _; rw [pC]; omega
       have J2 : Hid (∀ q ∈ L.take i ++ [s] ++ L.drop i, ∃ i, i < l.length ∧ q = (aB l i).item) := by
        intro q hq
        simp only [List.mem_append, List.mem_singleton] at hq
        rcases hq with (hq | rfl) | hq
        ·exact qY.out q (List.mem_of_mem_take hq)
        ·exact ⟨k, aM, lR.out⟩
        ·exact qY.out q (List.mem_of_mem_drop hq)
       clear kP dL nV nZ nY qN mL q5 gL oC nU p7
       go_upto_region 11 with (at_builtin; refine dB rfl _ _ _ rfl _ _ rfl rfl nP ?_)
       go_upto_region 12 with (at_builtin; refine dB rfl _ _ _ rfl _ _ rfl rfl nO ?_)
       go_upto_region 4 with (at_builtin; refine dB rfl _ _ _ rfl _ _ rfl rfl nN ?_)
       go_wp2
       go_roundw
       case rel => exact ⟨k + 1, L.take i ++ [s] ++ L.drop i, g5, c5, by omega, by go_num, by first | rw [pC] | (rw [pC]; rfl), HL5, J2, by rw [pC]; exact HR5, kL⟩
       case measure => simp [intOf]; omega
     ·go_upto_region 4 with fail
      go_wp2
      go_roundw
      case rel => exact ⟨k + 1, L, g, c, by omega, by go_num, rfl, Nat.le_succ_of_le vR.out, qY, lS, cA⟩
      case measure => simp [intOf]; omega
  ·obtain rfl : k = l.length := by omega
   have E6 := aRp (pX HR.out); have HZ := aRp (HB.out.trans (eE.out.mono (by omega)))
   go_wp2
   go_ret
   exact ⟨g, c, L, rfl, vR.out, qY.out, E6.out, HZ.out⟩
end Go.Proofs.YthkagbnpcjidfaaGreatDoor
