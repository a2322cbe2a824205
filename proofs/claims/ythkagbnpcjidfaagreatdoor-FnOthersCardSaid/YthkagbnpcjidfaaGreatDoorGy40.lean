/- Walks and mathematics that several claims share, part 40. -/
import Derived.Test.YthkagbnpcjidfaaGreatDoorGy33
import Derived.Test.YthkagbnpcjidfaaGreatDoorGy23
import Derived.Test.YthkagbnpcjidfaaGreatDoorGyA
namespace Go.Proofs.YthkagbnpcjidfaaGreatDoor
set_option maxHeartbeats 20000000
set_option maxRecDepth 100000
open Go.RowKit
set_option linter.unusedVariables false
set_option linter.unusedSimpArgs false

theorem aDd (w : World) (B : Nat) (av ao : Option Addr) (nv cv no co : Nat) (xs : List Int) (l : List aA) (hx : Ints w B av nv xs) (h : bS w B ao no l) (hB : B ≤ w.heap.size) (hv : nv ≤ 1048576) (hc : no ≤ co) (cM : Fits no co) (hm : ∀ o ∈ l, o.item.size ≤ 1048576) : Calls Tryz.prog 29 #[.agg #[.slice av nv cv, .slice ao no co]] w fun e w' => e = .returned (.int .i64 (tW xs l)) ∧ Below w.heap.size w w' := by
 have aW : Below w.heap.size w (w.alloc (.cells #[.slice av nv cv, .slice ao no co] 27)) := (Below.refl _ w).alloc aRC _
 have HV := aRA (hx.below aW hB)
 have HO := aRA (h.below aW hB)
 have HB := aRA aW
 clear hx h aW
 go_enter Tryz.func29, Tryz.ntmps29
 go_wp2_with fail
 generalize w.alloc (.cells #[.slice av nv cv, .slice ao no co] 27) = w0 at HV HO HB ⊢
 refine (lG w0 B av ao nv cv no co xs l HV.out HO.out (Nat.le_trans hB HB.out.size) hv hc cM hm).mono ?_
 rintro e w1 ⟨a, c, rfl, jD, hb⟩
 have cO := aRA (HB.out.trans (hb.mono HB.out.size))
 have HQ : Hid (∀ k, k < (aO xs l).length → 0 ≤ ((aO xs l).getD k aT.zero).qty ∧ ((aO xs l).getD k aT.zero).qty ≤ 999) := fun k hk => aGm hk
 have HTt : Hid (tW xs l = kU (aO xs l) (aO xs l).length) := rfl
 have kI : (aO xs l).length ≤ 160 := by unfold aO; rw [List.length_map]; exact oN
 generalize aO xs l = L at jD HQ HTt kI ⊢
 have HL := aRA jD.rows
 clear jD hb HV HO HB
 go_wp2
 go_loopw [3, 9] (fun s i wr => ∃ (k : Nat) (z : Int), k ≤ L.length ∧ i = .int .i64 (k : Int) ∧ s = .int .i64 z ∧ Hid (kU L k = z) ∧ Hid (Below w1.heap.size w1 wr)) (fun _ i _ => L.length - (intOf i).toNat)
 case atStart => exact ⟨0, 0, Nat.zero_le _, rfl, rfl, rfl, Below.refl _ _⟩
 case round =>
  obtain ⟨k, z, hk, rfl, rfl, HZ, cR⟩ := hrel
  by_cases aK : k < L.length
  rotate_left
  ·obtain rfl : k = L.length := by omega
   have HF : Hid (tW xs l = z) := HTt.out.trans HZ.out; have cA := aRA (cO.out.trans (cR.out.mono cO.out.size)); go_wp2
   go_ret
   exact ⟨by rw [HF.out]; rfl, cA.out⟩
  obtain ⟨b, off, rfl, hb, ho⟩ := (HL.out.below cR.out aRC).2 k aK; obtain ⟨d0, d1, d2⟩ := ho; have hki : (k : Int) < (L.length : Int) := by omega
  have hq := HQ.out k aK; have hz := aAL HQ.out k (by omega)
  rw [HZ.out] at hz; have tI := aRA (aF8 L k); generalize L.getD k aT.zero = y at d0 d1 d2 hq tI; obtain ⟨J4, hq2⟩ := hq; obtain ⟨kO, jU⟩ := hz; have HBn : Hid (∀ C, Below w1.heap.size w1 (wr.alloc C)) := fun C => cR.out.alloc cR.out.size C
  rcases hsv : y.saved with _ | _
  ·have HE : Hid (kU L (k + 1) = z + y.qty) := by show _ = _; rw [tI.out, hsv, HZ.out]; rfl
   rw [hsv] at d2; clear hsv tI; go_wp2
   go_roundw
   case rel => exact ⟨k + 1, z + y.qty, by omega, by go_num, rfl, HE, HBn.out _⟩
   case measure => simp [intOf]; omega
  ·have HE : Hid (kU L (k + 1) = z) := by show _ = _; rw [tI.out, hsv, HZ.out]; rfl
   rw [hsv] at d2; clear hsv tI; go_wp2
   go_roundw
   case rel => exact ⟨k + 1, z, by omega, by go_num, rfl, HE, HBn.out _⟩
   case measure => simp [intOf]; omega
theorem aFl (xs : List Int) (l : List aA) : (aO xs l).map (·.item) = bY xs l := by
 unfold aO
 rw [List.map_map]
 exact List.map_id' _
theorem aHw (L : List aT) {k : Nat} (h : k < L.length) : (L.take (k + 1)).map (·.item) = (L.take k).map (·.item) ++ [(L.getD k aT.zero).item] := by
 rw [List.take_succ_eq_append_getElem h, List.map_append, List.getD_eq_getElem?_getD, List.getElem?_eq_getElem h]
 rfl
theorem aPd (w : World) (B : Nat) (av ao : Option Addr) (nv cv no co : Nat) (xs : List Int) (l : List aA) (hx : Ints w B av nv xs) (h : bS w B ao no l) (hB : B ≤ w.heap.size) (hv : nv ≤ 1048576) (hc : no ≤ co) (cM : Fits no co) (hm : ∀ o ∈ l, o.item.size ≤ 1048576) : Calls Tryz.prog 37 #[.agg #[.slice av nv cv, .slice ao no co]] w (aIV (bY xs l) w) := by
 have aW : Below w.heap.size w (w.alloc (.cells #[.slice av nv cv, .slice ao no co] 27)) := (Below.refl _ w).alloc aRC _
 have HV := aRA (hx.below aW hB)
 have HO := aRA (h.below aW hB)
 have HB := aRA aW
 clear hx h aW
 go_enter Tryz.func37, Tryz.ntmps37
 go_wp2_with fail
 generalize w.alloc (.cells #[.slice av nv cv, .slice ao no co] 27) = w0 at HV HO HB ⊢
 refine (lG w0 B av ao nv cv no co xs l HV.out HO.out (Nat.le_trans hB HB.out.size) hv hc cM hm).mono ?_
 rintro e w1 ⟨a, c, rfl, jD, hb⟩
 have cO := aRA (HB.out.trans (hb.mono HB.out.size))
 have kI : (aO xs l).length ≤ 160 := by unfold aO; rw [List.length_map]; exact oN
 have HIe := aRA (aFl xs l)
 generalize aO xs l = L at jD kI HIe ⊢
 have HL := aRA jD.rows
 have xP : Hid (∀ k, k < L.length → (L.take (k + 1)).map (·.item) = (L.take k).map (·.item) ++ [(L.getD k aT.zero).item]) := fun k hk => aHw L hk
 have gN : Hid (w1.ownsRow w1.heap.size 9 1 (.slice none 0 0) 0 (((L.take 0).map (·.item)).map Value.string)) := ⟨rfl, .inl ⟨rfl, rfl⟩⟩
 clear jD hb HV HO HB
 go_wp2
 go_loopw [3, 9] (fun v i wr => ∃ (k : Nat) (vv : Value), k ≤ L.length ∧ i = .int .i64 (k : Int) ∧ vv = v ∧ Hid (wr.ownsRow w1.heap.size 9 1 vv k (((L.take k).map (·.item)).map Value.string)) ∧ Hid (Below w1.heap.size w1 wr)) (fun _ i _ => L.length - (intOf i).toNat)
 case atStart => exact ⟨0, _, Nat.zero_le _, rfl, rfl, gN, Below.refl _ _⟩
 case round =>
  obtain ⟨k, v, hk, rfl, rfl, HR, cR⟩ := hrel; clear gN
  by_cases aK : k < L.length
  rotate_left
  ·obtain rfl : k = L.length := by omega
   have hr := HR.out; rw [List.take_length, HIe.out] at hr; obtain ⟨a2, c2, hv4, aY⟩ := yQ hr; subst hv4; have N5 : (bY xs l).length = L.length := by rw [← HIe.out, List.length_map]
   have yK := aRA (aY.more cO.out.size aRC); have T4 := aRA N5; have cA := aRA (cO.out.trans (cR.out.mono cO.out.size)); clear aY hr HR N5; go_wp2
   go_ret
   exact ⟨a2, c2, by rw [T4.out]; rfl, by rw [T4.out]; exact yK.out, cA.out⟩
  obtain ⟨b, off, rfl, hb, ho⟩ := (HL.out.below cR.out aRC).2 k aK; obtain ⟨d0, d1, d2⟩ := ho; have hki : (k : Int) < (L.length : Int) := by omega
  have tI := aRA (xP.out k aK); generalize L.getD k aT.zero = y at d0 d1 d2 tI; have gB : Below wr.heap.size wr (wr.alloc (.cells #[.string y.item, .int .i64 y.qty, .bool y.saved] 39)) := bl; have nK := HR.out.alloc (.cells #[.string y.item, .int .i64 y.qty, .bool y.saved] 39)
  go_upto_region 5 with fail
  have hX := bL (Below.refl _ (wr.alloc (.cells #[.string y.item, .int .i64 y.qty, .bool y.saved] 39))); generalize wr.alloc (.cells #[.string y.item, .int .i64 y.qty, .bool y.saved] 39) = w2 at gB nK hX ⊢; have hrB := nK.alloc (.cells #[.string y.item] 9); have hbB : Below w1.heap.size w2 (w2.alloc (.cells #[.string y.item] 9)) := (Below.refl _ _).alloc (Nat.le_trans cR.out.size gB.size) _; obtain ⟨v6, w3, hrun, nX, hg3⟩ := nF _ w1.heap.size v k _ hrB (w2.heap.size + 1) (some ⟨w2.heap.size, 0, none⟩) 1 1 [y.item] (I1 w2 y.item) (fun h => by cases h) (by omega) (Nat.le_trans (Nat.le_trans cR.out.size gB.size) hbB.size)
  have B5 : Hid (w3.ownsRow w1.heap.size 9 1 v6 (k + 1) (((L.take (k + 1)).map (·.item)).map Value.string)) := by
   show World.ownsRow _ _ _ _ _ _ _
   rw [tI.out]; exact nX
  have dR : Hid (Below w1.heap.size w1 w3) := (cR.out.trans (gB.mono cR.out.size)).trans (hbB.grown hg3 (Nat.le_trans (Nat.le_trans cR.out.size gB.size) hbB.size) (fun j hj => (hrB.lt j hj).1))
  have e0 : w2.cell? ⟨wr.heap.size, 0, none⟩ = some (.string y.item) := aRD hX; clear nX hg3 nK hrB gB hbB hX d0 d1 d2
  go_upto_region 6 with (at_builtin; refine cX rfl _ _ _ rfl _ _ rfl rfl hrun ?_)
  go_wp2
  go_roundw
  case rel => exact ⟨k + 1, _, by omega, by go_num, rfl, B5, dR⟩
  case measure => simp [intOf]; omega
end Go.Proofs.YthkagbnpcjidfaaGreatDoor
