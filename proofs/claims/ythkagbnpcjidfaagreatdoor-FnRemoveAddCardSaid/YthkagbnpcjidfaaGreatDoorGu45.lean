/- Walks and mathematics that several claims share, part 45. -/
import Derived.Test.YthkagbnpcjidfaaGreatDoorGu38
import Derived.Test.YthkagbnpcjidfaaGreatDoorGu27
namespace Go.Proofs.YthkagbnpcjidfaaGreatDoor
set_option maxRecDepth 100000
open Go.RowKit
set_option linter.unusedVariables false
set_option linter.unusedSimpArgs false
set_option maxHeartbeats 20000000 in
theorem aBS (w : World) (B : Nat) (av ao : Option Addr) (nv cv no co : Nat) (xs : List Int) (l : List aA) (hx : Ints w B av nv xs) (h : bP w B ao no l) (hB : B ≤ w.heap.size) (hv : nv ≤ 1048576) (hc : no ≤ co) (dP : Fits no co) (hm : ∀ o ∈ l, o.item.size ≤ 1048576) : Calls Tryz.prog 29 #[.agg #[.slice av nv cv, .slice ao no co]] w fun e w' => e = .returned (.int .i64 (xX xs l)) ∧ Below w.heap.size w w' := by
 have bD : Below w.heap.size w (w.alloc (.cells #[.slice av nv cv, .slice ao no co] 27)) := (Below.refl _ w).alloc aPq _
 have HV := aPo (hx.below bD hB)
 have HO := aPo (h.below bD hB)
 have HB := aPo bD
 clear hx h bD
 go_enter Tryz.func29, Tryz.ntmps29
 go_wp2_with fail
 generalize w.alloc (.cells #[.slice av nv cv, .slice ao no co] 27) = w0 at HV HO HB ⊢
 refine (vL w0 B av ao nv cv no co xs l HV.out HO.out (Nat.le_trans hB HB.out.size) hv hc dP hm).mono ?_
 rintro e w1 ⟨a, c, rfl, pO, hb⟩
 have cU := aPo (HB.out.trans (hb.mono HB.out.size))
 have HQ : Hid (∀ k, k < (aZ xs l).length → 0 ≤ ((aZ xs l).getD k aS.zero).qty ∧ ((aZ xs l).getD k aS.zero).qty ≤ 999) := fun k hk => I8 hk
 have HTt : Hid (xX xs l = lS (aZ xs l) (aZ xs l).length) := rfl
 have lA : (aZ xs l).length ≤ 160 := by unfold aZ; rw [List.length_map]; exact sQ
 generalize aZ xs l = L at pO HQ HTt lA ⊢
 have HL := aPo pO.rows
 clear pO hb HV HO HB
 go_wp2
 go_loopw [3, 9] (fun s i wr => ∃ (k : Nat) (z : Int), k ≤ L.length ∧ i = .int .i64 (k : Int) ∧ s = .int .i64 z ∧ Hid (lS L k = z) ∧ Hid (Below w1.heap.size w1 wr)) (fun _ i _ => L.length - (intOf i).toNat)
 case atStart => exact ⟨0, 0, Nat.zero_le _, rfl, rfl, rfl, Below.refl _ _⟩
 case round =>
  obtain ⟨k, z, hk, rfl, rfl, HZ, cW⟩ := hrel
  by_cases aJ : k < L.length
  rotate_left
  ·obtain rfl : k = L.length := by omega
   have HF : Hid (xX xs l = z) := HTt.out.trans HZ.out; have bQ := aPo (cU.out.trans (cW.out.mono cU.out.size)); go_wp2
   go_ret
   exact ⟨by rw [HF.out]; rfl, bQ.out⟩
  obtain ⟨b, off, rfl, hb, ho⟩ := (HL.out.below cW.out aPq).2 k aJ; obtain ⟨d0, d1, d2⟩ := ho; have hki : (k : Int) < (L.length : Int) := by omega
  have hq := HQ.out k aJ; have hz := D5 HQ.out k (by omega)
  rw [HZ.out] at hz; have qA := aPo (aEV L k); generalize L.getD k aS.zero = y at d0 d1 d2 hq qA; obtain ⟨yN, hq2⟩ := hq; obtain ⟨jV, iS⟩ := hz; have HBn : Hid (∀ C, Below w1.heap.size w1 (wr.alloc C)) := fun C => cW.out.alloc cW.out.size C
  rcases hsv : y.saved with _ | _
  ·have HE : Hid (lS L (k + 1) = z + y.qty) := by show _ = _; rw [qA.out, hsv, HZ.out]; rfl
   rw [hsv] at d2; clear hsv qA; go_wp2
   go_roundw
   case rel => exact ⟨k + 1, z + y.qty, by omega, by go_num, rfl, HE, HBn.out _⟩
   case measure => simp [intOf]; omega
  ·have HE : Hid (lS L (k + 1) = z) := by show _ = _; rw [qA.out, hsv, HZ.out]; rfl
   rw [hsv] at d2; clear hsv qA; go_wp2
   go_roundw
   case rel => exact ⟨k + 1, z, by omega, by go_num, rfl, HE, HBn.out _⟩
   case measure => simp [intOf]; omega
theorem aEd (xs : List Int) (l : List aA) : (aZ xs l).map (·.item) = cF xs l := by
 unfold aZ
 rw [List.map_map]
 exact List.map_id' _
theorem aF7 (L : List aS) {k : Nat} (h : k < L.length) : (L.take (k + 1)).map (·.item) = (L.take k).map (·.item) ++ [(L.getD k aS.zero).item] := by
 rw [List.take_succ_eq_append_getElem h, List.map_append, List.getD_eq_getElem?_getD, List.getElem?_eq_getElem h]
 rfl
set_option maxHeartbeats 20000000 in
theorem aGX (w : World) (B : Nat) (av ao : Option Addr) (nv cv no co : Nat) (xs : List Int) (l : List aA) (hx : Ints w B av nv xs) (h : bP w B ao no l) (hB : B ≤ w.heap.size) (hv : nv ≤ 1048576) (hc : no ≤ co) (dP : Fits no co) (hm : ∀ o ∈ l, o.item.size ≤ 1048576) : Calls Tryz.prog 37 #[.agg #[.slice av nv cv, .slice ao no co]] w (aB4 (cF xs l) w) := by
 have bD : Below w.heap.size w (w.alloc (.cells #[.slice av nv cv, .slice ao no co] 27)) := (Below.refl _ w).alloc aPq _
 have HV := aPo (hx.below bD hB)
 have HO := aPo (h.below bD hB)
 have HB := aPo bD
 clear hx h bD
 go_enter Tryz.func37, Tryz.ntmps37
 go_wp2_with fail
 generalize w.alloc (.cells #[.slice av nv cv, .slice ao no co] 27) = w0 at HV HO HB ⊢
 refine (vL w0 B av ao nv cv no co xs l HV.out HO.out (Nat.le_trans hB HB.out.size) hv hc dP hm).mono ?_
 rintro e w1 ⟨a, c, rfl, pO, hb⟩
 have cU := aPo (HB.out.trans (hb.mono HB.out.size))
 have lA : (aZ xs l).length ≤ 160 := by unfold aZ; rw [List.length_map]; exact sQ
 have HIe := aPo (aEd xs l)
 generalize aZ xs l = L at pO lA HIe ⊢
 have HL := aPo pO.rows
 have HTk : Hid (∀ k, k < L.length → (L.take (k + 1)).map (·.item) = (L.take k).map (·.item) ++ [(L.getD k aS.zero).item]) := fun k hk => aF7 L hk
 have fQ : Hid (w1.ownsRow w1.heap.size 9 1 (.slice none 0 0) 0 (((L.take 0).map (·.item)).map Value.string)) := ⟨rfl, .inl ⟨rfl, rfl⟩⟩
 clear pO hb HV HO HB
 go_wp2
 go_loopw [3, 9] (fun v i wr => ∃ (k : Nat) (vv : Value), k ≤ L.length ∧ i = .int .i64 (k : Int) ∧ vv = v ∧ Hid (wr.ownsRow w1.heap.size 9 1 vv k (((L.take k).map (·.item)).map Value.string)) ∧ Hid (Below w1.heap.size w1 wr)) (fun _ i _ => L.length - (intOf i).toNat)
 case atStart => exact ⟨0, _, Nat.zero_le _, rfl, rfl, fQ, Below.refl _ _⟩
 case round =>
  obtain ⟨k, v, hk, rfl, rfl, HR, cW⟩ := hrel; clear fQ
  by_cases aJ : k < L.length
  rotate_left
  ·obtain rfl : k = L.length := by omega
   have hr := HR.out; rw [List.take_length, HIe.out] at hr; obtain ⟨a2, c2, hv4, aU⟩ := uG hr; subst hv4; have N3 : (cF xs l).length = L.length := by rw [← HIe.out, List.length_map]
   have tZ := aPo (aU.more cU.out.size aPq); have G8 := aPo N3; have bQ := aPo (cU.out.trans (cW.out.mono cU.out.size)); clear aU hr HR N3; go_wp2
   go_ret
   exact ⟨a2, c2, by rw [G8.out]; rfl, by rw [G8.out]; exact tZ.out, bQ.out⟩
  obtain ⟨b, off, rfl, hb, ho⟩ := (HL.out.below cW.out aPq).2 k aJ; obtain ⟨d0, d1, d2⟩ := ho; have hki : (k : Int) < (L.length : Int) := by omega
  have qA := aPo (HTk.out k aJ); generalize L.getD k aS.zero = y at d0 d1 d2 qA; have fA : Below wr.heap.size wr (wr.alloc (.cells #[.string y.item, .int .i64 y.qty, .bool y.saved] 39)) := bl; have kZ := HR.out.alloc (.cells #[.string y.item, .int .i64 y.qty, .bool y.saved] 39)
  go_upto_region 5 with fail
  have hX := bX (Below.refl _ (wr.alloc (.cells #[.string y.item, .int .i64 y.qty, .bool y.saved] 39))); generalize wr.alloc (.cells #[.string y.item, .int .i64 y.qty, .bool y.saved] 39) = w2 at fA kZ hX ⊢; have hrB := kZ.alloc (.cells #[.string y.item] 9); have hbB : Below w1.heap.size w2 (w2.alloc (.cells #[.string y.item] 9)) := (Below.refl _ _).alloc (Nat.le_trans cW.out.size fA.size) _; obtain ⟨v6, w3, hrun, lI, hg3⟩ := kS _ w1.heap.size v k _ hrB (w2.heap.size + 1) (some ⟨w2.heap.size, 0, none⟩) 1 1 [y.item] (yE w2 y.item) (fun h => by cases h) (by omega) (Nat.le_trans (Nat.le_trans cW.out.size fA.size) hbB.size)
  have vX : Hid (w3.ownsRow w1.heap.size 9 1 v6 (k + 1) (((L.take (k + 1)).map (·.item)).map Value.string)) := by
   show World.ownsRow _ _ _ _ _ _ _
   rw [qA.out]; exact lI
  have dX : Hid (Below w1.heap.size w1 w3) := (cW.out.trans (fA.mono cW.out.size)).trans (hbB.grown hg3 (Nat.le_trans (Nat.le_trans cW.out.size fA.size) hbB.size) (fun j hj => (hrB.lt j hj).1))
  have e0 : w2.cell? ⟨wr.heap.size, 0, none⟩ = some (.string y.item) := aPr hX; clear lI hg3 kZ hrB fA hbB hX d0 d1 d2
  go_upto_region 6 with (at_builtin; refine cY rfl _ _ _ rfl _ _ rfl rfl hrun ?_)
  go_wp2
  go_roundw
  case rel => exact ⟨k + 1, _, by omega, by go_num, rfl, vX, dX⟩
  case measure => simp [intOf]; omega
end Go.Proofs.YthkagbnpcjidfaaGreatDoor
