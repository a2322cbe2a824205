/- Walks and mathematics that several claims share, part 49. -/
import Derived.Test.YtgagchlcafdiaaaGreatGb44
import Derived.Test.YtgagchlcafdiaaaGreatGb48
import Derived.Test.YtgagchlcafdiaaaGreatGb35
import Derived.Test.YtgagchlcafdiaaaGreatGb10
import Derived.Test.YtgagchlcafdiaaaGreatGb15
import Derived.Test.YtgagchlcafdiaaaGreatGbA
namespace Go.Proofs.YtgagchlcafdiaaaGreat
set_option maxRecDepth 100000
open Go.RowKit
theorem lninc_of {l : List LnV} (h : LnsB l = true) : ∀ i, i < l.length → Lninc l i = true := fun i hi => by
 unfold LnsB sort2 at h
 simp only [Bool.and_eq_true, List.all_eq_true, List.mem_range] at h
 exact h.2.1 i hi
theorem lninc_lt {l : List LnV} (h : ∀ i, i < l.length → Lninc l i = true) : ∀ j i, i < j → j < l.length → ltS (atLn l i).item (atLn l j).item = true
 | 0, _, h1, _ => absurd h1 (by omega)
 | j + 1, i, h1, h2 => by
  have hs : ltS (atLn l j).item (atLn l (j + 1)).item = true := by
   have := h (j + 1) h2
   unfold Lninc at this
   simpa using this
  rcases Nat.lt_or_ge i j with g | g
  ·exact ltS_trans (lninc_lt h j i g (by omega)) hs
  ·obtain rfl : i = j := by omega
   exact hs
theorem lns_pair {l : List LnV} (h : LnsB l = true) : l.Pairwise fun x y => ltS x.item y.item = true :=
 List.pairwise_iff_getElem.2 fun i j hi hj hij => by
  have := lninc_lt (lninc_of h) j i hij hj
  rw [atLn_get hi, atLn_get hj] at this
  exact this
/-- What is left of a row of lines without the saved ones is such a row. -/
theorem lns_open {l : List LnV} (h : LnsB l = true) : LnsB (openL l) = true := by
 have hp : (openL l).Pairwise fun x y => ltS x.item y.item = true := (lns_pair h).filter _
 have hl := (lns_parts h).2
 have hle := openL_len l
 unfold LnsB sort2
 simp only [Bool.and_eq_true, List.all_eq_true, List.mem_range, decide_eq_true_eq]
 refine ⟨fun i hi => ?_, fun i hi => ?_, by omega⟩
 ·have hm : (openL l)[i] ∈ l := (List.mem_filter.1 (List.getElem_mem hi)).1
  obtain ⟨j, hj, e⟩ := List.mem_iff_getElem.1 hm
  have := (lns_parts h).1 j hj
  rw [atLn_get hj, e] at this
  unfold Lnok
  rw [atLn_get hi]
  exact this
 ·unfold Lninc
  by_cases h0 : i = 0
  ·rw [h0]; rfl
  ·have h2 := List.pairwise_iff_getElem.1 hp (i - 1) i (by omega) hi (by omega)
   rw [atLn_get hi, atLn_get (by omega : i - 1 < (openL l).length), h2]
   simp
theorem open_open (l : List LnV) : openL (openL l) = openL l := by
 unfold openL
 rw [List.filter_filter]
 congr 1
 funext x
 simp
theorem bill_open {l : List LnV} {ps : List PrV} {os : List OfV} (h : billB l ps os = true) : billB (openL l) ps os = true ∧ billRs (openL l) ps os true = billRs l ps os true ∧ billSum (openL l) ps os true = billSum l ps os true := by
 have hr : rowsV ps os (openL l) = rowsV ps os l := by unfold rowsV; rw [open_open]
 refine ⟨?_, ?_, ?_⟩
 ·unfold billB at h ⊢
  simp only [Bool.and_eq_true] at h ⊢
  rw [open_open]
  exact ⟨lns_open h.1, h.2⟩
 ·show rowsV ps os (openL l) = rowsV ps os l; exact hr
 ·show sumR (rowsV ps os (openL l)) = sumR (rowsV ps os l); rw [hr]
set_option linter.unusedVariables false
set_option linter.unusedSimpArgs false
set_option linter.unusedVariables false
set_option linter.unusedSimpArgs false

theorem ln_empty (w : World) : (w.alloc (.cells #[] 40)).ownsRow w.heap.size 40 3 (.slice (some ⟨w.heap.size, 0, none⟩) 0 0) 0 (lnCells []) := World.ownsRow_made w #[] 0 (Nat.le_refl _) (by unfold maxLen; omega) rfl
theorem billRs_len3 {l : List LnV} {ps : List PrV} {os : List OfV} {R : Bool} : (billRs l ps os R).length ≤ l.length := by
 unfold billRs
 split
 ·unfold rowsV
  rw [List.length_map]
  exact openL_len l
 ·exact Nat.zero_le _
theorem wpListL {P : Program} {w : World} {ops : Array Oper} {rest : List Oper} {o : Oper} {a : Act} {Q : Exit → Act → World → Prop} (hgd : o.guard = none) (x y : Operand) (ts : Array TypeId) (hop : o.op = Op.call { callee := Callee.builtin Builtin.append, args := #[x, y], argTypes := ts }) (v1 v2 : Value) {v' : Value} {w' : World} (h1 : a.eval x = v1) (h2 : a.eval y = v2)
  (hrun : (Builtin.append_ ts o.type #[v1, v2]).run P w = .ok v' w') (h : wpList P ops Q rest (a.put o.dst v') w') : wpList P ops Q (o :: rest) a w :=
 wpList_plain hgd fun _ hK => opwpO x y ts hop v1 v2 h1 h2 hrun (hK _ _ h)
theorem own_len {w : World} {base n : Nat} {v : Value} {l : List LnV} (h : w.ownsRow base 40 3 v n (lnCells l)) : l.length = n := by
 have := h.1
 rw [lnCells_len] at this
 omega
/-- The loop that gathers the lines that are not saved. -/
structure LeftI (w3 wr : World) (l : List LnV) (k : Nat) (v : Value) : Prop where
 own : wr.ownsRow w3.heap.size 40 3 v (openL (l.take k)).length (lnCells (openL (l.take k)))
 bel : Below w3.heap.size w3 wr
set_option maxHeartbeats 40000000 in
theorem fnBillSavedWalk (a : Option Addr) (len cap : Nat) (zs : List Int) (w : World) (h : IsRow .u8 w a len cap zs) :
  Calls Tryz.prog 4 #[.slice a len cap] w fun e w' => e = .returned (.bool true) ∧ Below w.heap.size w w' := by
 by_cases hl : len ≤ 1048576
 rotate_left
 ·go_enter Tryz.func4, Tryz.ntmps4
  go_wp2_with fail
  refine (bigYes a len cap hl _).mono ?_
  rintro e w1 ⟨rfl, rfl⟩
  go_wp2
  go_ret
  exact ⟨rfl, Below.refl _ _⟩
 have HS := Lib.hid (src_of_row h hl)
 clear h
 go_enter Tryz.func4, Tryz.ntmps4
 go_wp2_with fail
 refine (bigNo a len cap hl _).mono ?_
 rintro e w1 ⟨rfl, rfl⟩
 go_wp2_with fail
 refine (drawBill w w.heap.size a len cap (Nat.le_refl _) HS.out).mono ?_
 rintro e w1 ⟨la, pa, oa, ln, lc, pn, pc, on, oc, l, ps, os, rfl, hl1, hp1, ho1, hln, hpn, hon, hml, hmp, hmo, hb1⟩
 have HB1 := Lib.hid hb1
 have HL1 := Lib.hid hl1
 have HP1 := Lib.hid hp1
 have HO1 := Lib.hid ho1
 have HML := Lib.hid hml
 have HMP := Lib.hid hmp
 have HMO := Lib.hid hmo
 have hll := hl1.1
 have hs1 := hb1.size
 obtain ⟨RB, hRB⟩ : ∃ r, billB l ps os = r := ⟨_, rfl⟩
 have HSp := Lib.hid (implBill w1 w1.heap.size la pa oa ln lc pn pc on oc l ps os HL1.out HP1.out HO1.out (Nat.le_refl _) hln hpn hon HML.out)
 have HSs := fun (w2 : World) (hb : Below w1.heap.size w1 w2) => specBill w2 w1.heap.size la pa oa ln lc pn pc on oc l ps os (HL1.out.below hb (Nat.le_refl _)) (HP1.out.below hb (Nat.le_refl _)) (HO1.out.below hb (Nat.le_refl _)) hb.size hln hpn hon HML.out HMP.out HMO.out
 obtain ⟨RS, hRS⟩ : ∃ r, billRs l ps os (billB l ps os) = r := ⟨_, rfl⟩
 obtain ⟨SM, hSM⟩ : ∃ r, billSum l ps os (billB l ps os) = r := ⟨_, rfl⟩
 have hRl : RS.length ≤ l.length := by rw [← hRS]; exact billRs_len3
 rw [hRS, hSM, hRB] at HSp
 have HSs := Lib.hid HSs
 have HRS : Hid (billRs l ps os RB = RS) := by have := hRS; rwa [hRB] at this
 have HSM : Hid (billSum l ps os RB = SM) := by have := hSM; rwa [hRB] at this
 have HQ := Lib.hid (And.intro hRS (And.intro hSM hRB))
 have HRB := Lib.hid hRB
 clear hb1 hl1 hp1 ho1 hml hmp hmo hRS hSM hRB HS
 go_wp2_with fail
 refine HSp.out.mono ?_
 rintro e w2 ⟨ra, rc, rfl, hr2, hb2⟩
 have HSq := Lib.hid (HSs.out w2 hb2)
 rw [HQ.out.1, HQ.out.2.1, HQ.out.2.2] at HSq
 have HR2 := Lib.hid hr2
 have HL2 := Lib.hid (HL1.out.below hb2 (Nat.le_refl _))
 have HP2 := Lib.hid (HP1.out.below hb2 (Nat.le_refl _))
 have HO2 := Lib.hid (HO1.out.below hb2 (Nat.le_refl _))
 have HB2 := Lib.hid (HB1.out.trans (hb2.mono hs1))
 have hs2 := hb2.size
 clear hb2 hr2 HSs HSp HL1 HP1 HO1 HB1
 go_wp2_with fail
 refine HSq.out.mono ?_
 rintro e w3 ⟨rb, rc3, rfl, _, hb3⟩
 have HR3 := Lib.hid (HR2.out.below hb3 (Nat.le_refl _))
 have HL3 := Lib.hid (HL2.out.below hb3 hs2)
 have HP3 := Lib.hid (HP2.out.below hb3 hs2)
 have HO3 := Lib.hid (HO2.out.below hb3 hs2)
 have HB3 := Lib.hid (HB2.out.trans (hb3.mono (by omega)))
 have hs3 := hb3.size
 clear hb3 HSq HL2 HP2 HO2 HB2 HR2 HQ
 have hc1 : (RB != RB) = false := bne_self_eq_false _
 have hc2 : (SM != SM) = false := bne_self_eq_false _
 have hc3 : (RB == RB) = true := beq_self_eq_true _
 have hc4 : (SM == SM) = true := beq_self_eq_true _
 rcases RB with _ | _
 ·clear hc1 hc3
  go_wp2
  go_ret
  exact ⟨rfl, HB3.out⟩
 clear hc1 hc3 hc4
 obtain ⟨o1, o2, o3⟩ := bill_open HRB.out
 rw [HRS.out] at o2
 rw [HSM.out] at o3
 have hol := openL_len l
 have HSp := Lib.hid (fun (wz : World) (qa : Option Addr) (qc : Nat) (hb : Below w3.heap.size w3 wz) (hq : Lns wz wz.heap.size qa (openL l).length (openL l)) => implBill wz wz.heap.size qa pa oa (openL l).length qc pn pc on oc (openL l) ps os hq ((HP3.out.below hb (by omega)).more (by have := hb.size; omega)) ((HO3.out.below hb (by omega)).more (by have := hb.size; omega)) (Nat.le_refl _) (by omega) hpn hon (fun i hi => by
  have hm : (openL l)[i] ∈ l := (List.mem_filter.1 (List.getElem_mem hi)).1
  obtain ⟨j, hj, e⟩ := List.mem_iff_getElem.1 hm
  have := HML.out j (by omega)
  rw [atLn_get hi, ← e]
  rw [List.getD_eq_getElem?_getD, List.getElem?_eq_getElem hj] at this
  exact this))
 rw [o1, o2, o3] at HSp
 clear o1 o2 o3 HRS HSM HRB HP3 HO3 HMP HMO
 have hI0 : Hid (LeftI w3 (w3.alloc (.cells #[] 40)) l 0 (.slice (some ⟨w3.heap.size, 0, none⟩) 0 0)) := ⟨ln_empty w3, bl⟩
 go_wp2
 go_loopw [12, 13] (fun v i wr => ∃ (k : Nat) (u : Value), k ≤ ln ∧ i = .int .i64 (k : Int) ∧ u = v ∧ Hid (LeftI w3 wr l k u)) (fun _ i _ => ln - (intOf i).toNat)
 case atStart => exact ⟨0, _, Nat.zero_le _, rfl, rfl, hI0⟩
 case round =>
  obtain ⟨k, v, hk, rfl, rfl, HI⟩ := hrel
  have HLr := Lib.hid (HL3.out.below HI.out.bel (by omega))
  by_cases hlt : k < ln
  rotate_left
  ·obtain rfl : k = ln := by omega
   have ht : l.take k = l := by rw [← hll]; exact List.take_length
   have hown := HI.out.own
   rw [ht] at hown
   obtain ⟨qa, qc, rfl, hown2⟩ := ownLns_of_cells (hi := wr.heap.size) hown (Nat.le_refl _)
   have HSq := Lib.hid (HSp.out wr qa qc HI.out.bel hown2.rows)
   have HBr := Lib.hid (HB3.out.trans (HI.out.bel.mono (by omega)))
   have HRr := Lib.hid (HR3.out.below HI.out.bel (by omega))
   have hsr := HI.out.bel.size
   clear hown hown2 HI HSp HLr HL3 HB3 HR3 hI0
   go_wp2_with fail
   refine HSq.out.mono ?_
   rintro e w5 ⟨qb, qc5, rfl, hr5, hb5⟩
   have HSm := Lib.hid (sameRowsY w5 w5.heap.size w2.heap.size qb ra RS.length qc5 rc RS hr5.rows ((HRr.out.below hb5 (by omega)).rows) (Nat.le_refl _) (by have := hb5.size; omega) (by omega))
   have HB5 := Lib.hid (HBr.out.trans (hb5.mono (by omega)))
   clear hr5 hb5 HRr HBr HSq
   have hc4 : (SM == SM) = true := beq_self_eq_true _
   go_wp2_with fail
   refine HSm.out.mono ?_
   rintro e w6 ⟨rfl, hb6⟩
   have HB6 := Lib.hid (HB5.out.trans (hb6.mono HB5.out.size))
   clear hb6 HB5 HSm
   go_wp2
   go_ret
   exact ⟨rfl, HB6.out⟩
  obtain ⟨b, off, rfl, hb, d0, d1, d2⟩ := HLr.out.2 k hlt
  have hki : (k : Int) < (ln : Int) := by omega
  have hk0 : (0 : Int) ≤ (k : Int) := by omega
  have hst : openL (l.take (k + 1)) = if (l.getD k LnV.zero).saved = true then openL (l.take k) else openL (l.take k) ++ [l.getD k LnV.zero] := openL_snoc (by omega)
  have htl := open_take_le (l := l) (i := k)
  have HSt := Lib.hid hst
  clear hst hI0 HSp HL3 HR3 HB3
  generalize l.getD k LnV.zero = y at d0 d1 d2 HSt
  rcases hsv : y.saved with _ | _
  ·obtain ⟨v', w', hrun, hown, hbw, _⟩ := appLn wr w3.heap.size v _ _ HI.out.own y (by omega) HI.out.bel.size
   have HI2 : Hid (LeftI w3 w' l (k + 1) v') := by
    refine ⟨?_, HI.out.bel.trans hbw⟩
    rw [HSt.out, if_neg (by rw [hsv]; decide), List.length_append]
    exact hown
   rw [hsv] at d2 hrun
   clear hown hbw HI HSt
   go_wp2_with (at_builtin; refine wpListL rfl _ _ _ rfl _ _ rfl rfl hrun ?_)
   try go_wp2
   go_roundw
   case rel => exact ⟨k + 1, _, by omega, by go_num, rfl, HI2⟩
   case measure => simp [intOf]; omega
  ·have HI2 : Hid (LeftI w3 wr l (k + 1) v) := by
    refine ⟨?_, HI.out.bel⟩
    rw [HSt.out, if_pos hsv]
    exact HI.out.own
   rw [hsv] at d2
   clear HI HSt
   go_wp2
   go_roundw
   case rel => exact ⟨k + 1, _, by omega, by go_num, rfl, HI2⟩
   case measure => simp [intOf]; omega
end Go.Proofs.YtgagchlcafdiaaaGreat
