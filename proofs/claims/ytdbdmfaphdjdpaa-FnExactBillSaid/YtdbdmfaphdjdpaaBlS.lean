/- The walk of spec.Bill. -/
import Derived.Test.YtdbdmfaphdjdpaaBlI
import Derived.Test.YtdbdmfaphdjdpaaSpLnW
namespace Go.Proofs.Ytdbdmfaphdjdpaa
open Go.RowKit
set_option linter.unusedVariables false
set_option linter.unusedSimpArgs false

/-- What is paid of a line by the first k offers. -/
def paidUp (os : List OfV) (x : LnV) : Nat → Int
  | 0 => x.qty
  | k + 1 => if (atOf os k).item = x.item then paidZ x.qty (atOf os k).buy (atOf os k).free else paidUp os x k
theorem paidUp_no {os : List OfV} {x : LnV} : ∀ k, (∀ j, j < k → (atOf os j).item ≠ x.item) → paidUp os x k = x.qty
  | 0, _ => rfl
  | k + 1, h => by rw [paidUp, if_neg (h k (by omega))]; exact paidUp_no k (fun j hj => h j (by omega))
theorem paidUp_at {os : List OfV} {x : LnV} {i : Nat} (hi : (atOf os i).item = x.item) : ∀ k, i < k → (∀ j, j < k → j ≠ i → (atOf os j).item ≠ x.item) → paidUp os x k = paidZ x.qty (atOf os i).buy (atOf os i).free
  | 0, h, _ => absurd h (by omega)
  | k + 1, h, hn => by
    rw [paidUp]
    by_cases e : i = k
    · subst e; rw [if_pos hi]
    · rw [if_neg (hn k (by omega) (fun e2 => e e2.symm))]; exact paidUp_at hi k (by omega) (fun j hj => hn j (by omega))
theorem paidUp_all {os : List OfV} {x : LnV} (h : OfsB os = true) : paidUp os x os.length = qtyPaid os x := by
  have hi := incOf_of h
  have this := offer_is os x.item
  unfold qtyPaid
  cases hf : findO os x.item with
  | none =>
    rw [hf] at this
    rcases this with ⟨e, _⟩ | ⟨_, _, hn⟩
    · cases e
    · exact paidUp_no _ hn
  | some o =>
    rw [hf] at this
    rcases this with ⟨_, i, h1, h2, h3⟩ | ⟨e, _⟩
    · have h3 : o = atOf os i := h3
      subst h3
      refine paidUp_at h2 _ h1 (fun j hj hne e => ?_)
      rcases Nat.lt_or_gt_of_ne hne with g | g
      · have := incOf_lt hi i j g h1
        rw [e, h2, ltS_irr] at this
        cases this
      · have := incOf_lt hi j i g hj
        rw [e, h2, ltS_irr] at this
        cases this
    · cases e
theorem rw_empty (w : World) : (w.alloc (.cells #[] 123)).ownsRow w.heap.size 123 3 (.slice (some ⟨w.heap.size, 0, none⟩) 0 0) 0 [] := World.ownsRow_made w #[] 0 (Nat.le_refl _) (by unfold maxLen; omega) rfl
theorem row_below {W W' : World} {B base n : Nat} {v : Value} {xs : List Value} (h : W.ownsRow base 123 3 v n xs) (hb : Below W.heap.size W W') : W'.ownsRow base 123 3 v n xs := by
  refine h.kept (row := none) (below_grown hb) ?_
  rcases hv : v.ownBlock with _ | g
  · exact .inl rfl
  · exact .inr (fun e => by cases e)
theorem open_bad {l : List LnV} {ps : List PrV} {k : Nat} (hk : k < l.length) (hs : (atLn l k).saved = false) (hp : hasP ps (atLn l k) = false) : (openL l).all (hasP ps) = false := by
  refine Bool.eq_false_iff.2 fun h => ?_
  have hm : atLn l k ∈ l := by
    unfold atLn
    rw [List.getD_eq_getElem?_getD, List.getElem?_eq_getElem hk]
    exact List.getElem_mem hk
  have := List.all_eq_true.1 h (atLn l k) (List.mem_filter.2 ⟨hm, by rw [hs]; rfl⟩)
  rw [hp] at this
  cases this
theorem opwp_appendB {P : Program} {o : Oper} {a : Act} {w : World} {K : Act → World → Prop} {Q : Exit → Act → World → Prop} (x y : Operand) (ts : Array TypeId) (hop : o.op = Op.call { callee := Callee.builtin Builtin.append, args := #[x, y], argTypes := ts }) (v1 v2 : Value) {v' : Value} {w' : World} (h1 : a.eval x = v1) (h2 : a.eval y = v2)
    (hrun : (Builtin.append_ ts o.type #[v1, v2]).run P w = .ok v' w') (hK : K (a.put o.dst v') w') : Oper.wp P o a w K Q := by
  unfold Oper.wp
  simp [execOp, hop, resolve, invoke, builtin, h1, h2, hrun, Result.andThen]
  exact hK
theorem open_ok {l : List LnV} (h : LnsB l = true) {k : Nat} : ∀ y, y ∈ openL (l.take k) → y.ok = true := fun y hy => by
  have hy2 := List.mem_of_mem_take (List.mem_filter.1 hy).1
  obtain ⟨i, hi, e⟩ := List.mem_iff_getElem.1 hy2
  have := (lns_parts h).1 i hi
  unfold atLn at this
  rw [List.getD_eq_getElem?_getD, List.getElem?_eq_getElem hi] at this
  rw [← e]
  exact this
set_option maxRecDepth 100000 in
set_option maxHeartbeats 8000000 in
theorem specBill (w : World) (B : Nat) (la pa oa : Option Addr) (ln lc pn pc on oc : Nat) (l : List LnV) (ps : List PrV) (os : List OfV) (hl : Lns w B la ln l) (hp : Prs w B pa pn ps) (ho : Ofs w B oa on os) (hB : B ≤ w.heap.size) (hln : ln ≤ 1048576) (hpn : pn ≤ 1048576) (hon : on ≤ 1048576) (hm : ∀ i, i < ln → (atLn l i).item.size ≤ 1048576) (hmp : ∀ i, i < pn → (atPr ps i).item.size ≤ 1048576) (hmo : ∀ i, i < on → (atOf os i).item.size ≤ 1048576) :
    Calls Try.prog 29 #[.slice la ln lc, .slice pa pn pc, .slice oa on oc] w (BillPost (billB l ps os) (billRs l ps os (billB l ps os)) (billSum l ps os (billB l ps os)) w) := by
  have HLn := Lib.hid (hl.more hB)
  have HPr := Lib.hid (hp.more hB)
  have HOf := Lib.hid (ho.more hB)
  have HM := Lib.hid hm
  have HMp := Lib.hid hmp
  have HMo := Lib.hid hmo
  have HLl : Hid (l.length = ln) := hl.1
  have HOl : Hid (os.length = on) := ho.1
  obtain ⟨R, hR⟩ : ∃ R, billB l ps os = R := ⟨_, rfl⟩
  have HR := Lib.hid hR
  rw [hR]
  clear hl hp ho hB hm hmp hmo hR
  go_enter Try.func29, Try.ntmps29
  go_wp2_with fail
  have HB1 : Hid (Below w.heap.size w (w.alloc (.cells #[] 123))) := (Below.refl _ w).alloc (Nat.le_refl _) _
  have HO1 := Lib.hid (rw_empty w)
  have hs1 := HB1.out.size
  generalize w.alloc (.cells #[] 123) = w1 at HB1 HO1 hs1 ⊢
  refine (specLnsOk w1 w.heap.size la ln lc l (HLn.out.below HB1.out (Nat.le_refl _)) hln HM.out).mono ?_
  rintro e w2 ⟨rfl, hb⟩
  have HB2 := Lib.hid (HB1.out.trans (hb.mono HB1.out.size))
  have HO2 := Lib.hid (row_below (B := 0) HO1.out hb)
  have hs2 := HB2.out.size
  clear hb HB1 HO1
  obtain ⟨b1, hb1⟩ : ∃ b, LnsB l = b := ⟨_, rfl⟩
  have HVL := Lib.hid hb1
  rw [hb1]
  clear hb1
  cases b1
  · skip
    obtain rfl : R = false := by rw [← HR.out]; exact bill_1 HVL.out
    go_wp2
    exact bodyPost_ret (v := .tuple #[.slice none 0 0, .int .i64 0, .bool false]) (by simp [results, Try.results29, go_sem]) rfl ⟨none, 0, rfl, own_noRw _ _ _ _, HB2.out⟩
  go_wp2_with fail
  refine (specPrsOk w2 w.heap.size pa pn pc ps (HPr.out.below HB2.out (Nat.le_refl _)) hpn HMp.out).mono ?_
  rintro e w3 ⟨rfl, hb⟩
  have HB3 := Lib.hid (HB2.out.trans (hb.mono HB2.out.size))
  have HO3 := Lib.hid (row_below (B := 0) HO2.out hb)
  have hs3 := HB3.out.size
  clear hb HB2 HO2
  obtain ⟨b2, hb2⟩ : ∃ b, PrsB ps = b := ⟨_, rfl⟩
  have HVP := Lib.hid hb2
  rw [hb2]
  clear hb2
  cases b2
  · skip
    obtain rfl : R = false := by rw [← HR.out]; exact bill_2 HVP.out
    go_wp2
    exact bodyPost_ret (v := .tuple #[.slice none 0 0, .int .i64 0, .bool false]) (by simp [results, Try.results29, go_sem]) rfl ⟨none, 0, rfl, own_noRw _ _ _ _, HB3.out⟩
  go_wp2_with fail
  refine (specOfsOk w3 w.heap.size oa on oc os (HOf.out.below HB3.out (Nat.le_refl _)) (by omega) hon HMo.out).mono ?_
  rintro e w4 ⟨rfl, hb⟩
  have HB4 := Lib.hid (HB3.out.trans (hb.mono HB3.out.size))
  have HO4 := Lib.hid (row_below (B := 0) HO3.out hb)
  have hs4 := HB4.out.size
  clear hb HB3 HO3
  obtain ⟨b3, hb3⟩ : ∃ b, OfsB os = b := ⟨_, rfl⟩
  have HVO := Lib.hid hb3
  rw [hb3]
  clear hb3
  cases b3
  · skip
    obtain rfl : R = false := by rw [← HR.out]; exact bill_3 HVO.out
    go_wp2
    exact bodyPost_ret (v := .tuple #[.slice none 0 0, .int .i64 0, .bool false]) (by simp [results, Try.results29, go_sem]) rfl ⟨none, 0, rfl, own_noRw _ _ _ _, HB4.out⟩
  have HBill := Lib.hid (bill_4 HVL.out HVP.out HVO.out)
  go_wp2
  go_loopw [9, 10, 11] (fun v s i wr => ∃ (k : Nat) (vv : Value), k ≤ ln ∧ vv = v ∧ i = .int .i64 (k : Int) ∧ s = .int .i64 (sumR (rowsV ps os (l.take k))) ∧ Hid (wr.ownsRow w.heap.size 123 3 vv (openL (l.take k)).length (rwCells (rowsV ps os (l.take k)))) ∧ Hid (∀ x, x ∈ openL (l.take k) → hasP ps x = true) ∧ Hid (Below w.heap.size w wr)) (fun _ _ i _ => ln - (intOf i).toNat)
  case atStart => exact ⟨0, _, Nat.zero_le _, rfl, rfl, rfl, HO4.out, fun x hx => absurd hx (by simp [openL]), HB4.out⟩
  case round =>
    obtain ⟨k, v, hk, rfl, rfl, rfl, HOw, HHs, HBr⟩ := hrel
    have hsr := HBr.out.size
    by_cases hlt : k < ln
    rotate_left
    · obtain rfl : k = ln := by omega
      have ht : l.take k = l := List.take_of_length_le (by rw [HLl.out]; exact Nat.le_refl _)
      obtain rfl : R = true := by rw [← HR.out, HBill.out]; exact List.all_eq_true.2 (fun z hz => HHs.out z (by rw [ht]; exact hz))
      have hki : ¬ (k : Int) < (k : Int) := by omega
      have HT := Lib.hid ht
      have HOw2 : Hid (wr.ownsRow w.heap.size 123 3 v (rowsV ps os l).length (rwCells (rowsV ps os l))) := by
        have h := HOw.out
        rw [ht] at h
        show wr.ownsRow w.heap.size 123 3 v (rowsV ps os l).length (rwCells (rowsV ps os l))
        unfold rowsV at h ⊢
        rw [List.length_map]
        exact h
      rw [ht]
      clear ht
      go_wp2
      obtain ⟨ra, rc, rfl, how⟩ := ownRws_of_cells HOw2.out (Nat.le_refl _)
      exact bodyPost_ret (v := .tuple #[.slice ra (rowsV ps os l).length rc, .int .i64 (sumR (rowsV ps os l)), .bool true]) (by simp [results, Try.results29, go_sem]) rfl ⟨ra, rc, rfl, how, HBr.out⟩
    have hki : (k : Int) < (ln : Int) := by omega
    have hk0 : (0 : Int) ≤ (k : Int) := by omega
    obtain ⟨b, off, hla, hbB, hat⟩ := HLn.out.2 k hlt
    subst hla
    have HOx := Lib.hid ((lns_parts HVL.out).1 k (by rw [HLl.out]; exact hlt))
    have HIx := Lib.hid (HM.out k hlt)
    have HSn := Lib.hid (rowsV_snoc (ps := ps) (os := os) (l := l) (k := k) (by rw [HLl.out]; exact hlt))
    have HSo := Lib.hid (openL_snoc (l := l) (k := k) (by rw [HLl.out]; exact hlt))
    have HBd := Lib.hid (open_bad (l := l) (ps := ps) (k := k) (by rw [HLl.out]; exact hlt))
    have hat : LnAt w b (off + k * 3) (atLn l k) := hat
    generalize atLn l k = x at hat HOx HIx HSn HSo HBd
    have hatr := hat.kept (HBr.out.block b hbB)
    have HAt := Lib.hid hat
    obtain ⟨d0, d1, d2⟩ := hatr
    obtain ⟨sv, hsv⟩ : ∃ sv, x.saved = sv := ⟨_, rfl⟩
    have HSv := Lib.hid hsv
    rw [hsv] at d2
    clear hsv hat
    cases sv
    rotate_left
    · have HR1 : Hid (rowsV ps os (l.take (k + 1)) = rowsV ps os (l.take k)) := HSn.out.trans (if_pos HSv.out)
      have HO2 : Hid (openL (l.take (k + 1)) = openL (l.take k)) := HSo.out.trans (if_pos HSv.out)
      go_wp2
      exact ⟨⟨k + 1, v, by omega, rfl, by go_num, by rw [HR1.out], by show wr.ownsRow _ _ _ _ _ _; rw [HR1.out, HO2.out]; exact HOw.out, by show ∀ y, _; rw [HO2.out]; exact HHs.out, HBr⟩, by simp [intOf]; omega⟩
    go_wp2_with fail
    refine (specPriceOf wr w.heap.size pa pn pc ps x.item (HPr.out.below HBr.out (Nat.le_refl _)) (by omega) hpn HMp.out).mono ?_
    rintro e wp ⟨hpp, hb⟩
    obtain ⟨op, bb, rfl, hpi⟩ : ∃ (o : PrV) (b : Bool), e = .returned (.tuple #[.int .i64 o.cents, .bool b]) ∧ PriceIs ps x.item o b := by
      rcases hpp with ⟨_, h⟩ | ⟨h, _⟩
      · exact h
      · rw [HVP.out] at h; cases h
    obtain ⟨hO, hb2⟩ := price_val (prs_parts HVP.out).2.1 hpi
    have hct : op.cents = centsOf ps x.item := by rw [hO]; rfl
    have hbb : bb = hasP ps x := hb2
    rw [hct]
    clear hpp hpi hO hb2 hct d0 d1 d2
    have HBp := Lib.hid (HBr.out.trans (hb.mono hsr))
    have HOp := Lib.hid (row_below (B := 0) HOw.out hb)
    have hsp := HBp.out.size
    have HPp := Lib.hid hbb
    clear hb hbb HBr HOw
    cases bb
    · obtain rfl : R = false := by rw [← HR.out, HBill.out]; exact HBd.out HSv.out HPp.out.symm
      go_wp2
      exact bodyPost_ret (v := .tuple #[.slice none 0 0, .int .i64 0, .bool false]) (by simp [results, Try.results29, go_sem]) rfl ⟨none, 0, rfl, own_noRw _ _ _ _, HBp.out⟩
    obtain ⟨d0, d1, d2⟩ := HAt.out.kept (HBp.out.block b hbB)
    go_wp2
    go_loopw [14, 15] (fun pd q wi => ∃ j : Nat, j ≤ on ∧ q = .int .i64 (j : Int) ∧ pd = .int .i64 (paidUp os x j) ∧ Hid (wi.ownsRow w.heap.size 123 3 v (openL (l.take k)).length (rwCells (rowsV ps os (l.take k)))) ∧ Hid (Below w.heap.size w wi)) (fun _ q _ => on - (intOf q).toNat)
    case atStart => exact ⟨0, Nat.zero_le _, rfl, rfl, HOp, HBp⟩
    case round =>
      obtain ⟨j, hj, rfl, rfl, HOi, HBi⟩ := hrel
      have hsi := HBi.out.size
      obtain ⟨d0, d1, d2⟩ := HAt.out.kept (HBi.out.block b hbB)
      by_cases hjl : j < on
      rotate_left
      · obtain rfl : j = on := by omega
        have hji : ¬ (j : Int) < (j : Int) := by omega
        have HPd : Hid (paidUp os x j = qtyPaid os x) := by show _ = _; rw [← HOl.out]; exact paidUp_all HVO.out
        rw [HPd.out]
        clear d0 d1 d2
        have hT : openL (l.take (k + 1)) = openL (l.take k) ++ [x] := HSo.out.trans (if_neg (by rw [HSv.out]; decide))
        have hT2 : rowsV ps os (l.take (k + 1)) = rowsV ps os (l.take k) ++ [rowV ps os x] := HSn.out.trans (if_neg (by rw [HSv.out]; decide))
        have HT := Lib.hid hT
        have HT2 := Lib.hid hT2
        have HSu : Hid (sumR (rowsV ps os (l.take (k + 1))) = sumR (rowsV ps os (l.take k)) + centsOf ps x.item * qtyPaid os x) := by show _ = _; rw [hT2]; exact sumR_snoc _ _
        have hlen : (openL (l.take k)).length ≤ 200 := Nat.le_trans (openL_len _) (Nat.le_trans (List.length_take_le' _ _) (lns_parts HVL.out).2)
        have hsum : 0 ≤ sumR (rowsV ps os (l.take k)) ∧ sumR (rowsV ps os (l.take k)) ≤ 999000000 * ((openL (l.take k)).length : Int) := sum_le HVP.out HVO.out _ (open_ok HVL.out)
        have hrl : 0 ≤ centsOf ps x.item * qtyPaid os x ∧ centsOf ps x.item * qtyPaid os x ≤ 999000000 := row_le HVP.out HVO.out HOx.out
        have hcm : qtyPaid os x * centsOf ps x.item = centsOf ps x.item * qtyPaid os x := Int.mul_comm _ _
        have hw1 : IntKind.i64.wrap (qtyPaid os x * centsOf ps x.item) = centsOf ps x.item * qtyPaid os x := by rw [hcm]; exact IntWalk.i64_in _ (by omega)
        have hw2 : IntKind.i64.wrap (sumR (rowsV ps os (l.take k)) + centsOf ps x.item * qtyPaid os x) = sumR (rowsV ps os (l.take k)) + centsOf ps x.item * qtyPaid os x := IntWalk.i64_in _ (by omega)
        obtain ⟨z0, hz0e⟩ : ∃ z0, wr.drew = z0 := ⟨_, rfl⟩
        have t0 : Below wr.heap.size wr z0 := by rw [← hz0e]; exact ⟨rfl, rfl, rfl, Nat.le_refl _, fun _ _ => rfl⟩
        have hown0 := row_below (B := 0) HOi.out t0
        have HBz := Lib.hid (HBi.out.trans (t0.mono hsi))
        have hsz := HBz.out.size
        obtain ⟨v2, w2, hrun, hrow2, hb2, hg2⟩ := appRw z0 w.heap.size v _ _ hown0 (rowV ps os x) (by omega) hsz
        have hrun : (Builtin.append_ #[48, 48] 48 #[v, .slice (some ⟨z0.heap.size, 0, none⟩) 1 1]).run Try.prog (z0.alloc (.cells #[.string x.item, .int .i64 x.qty, .int .i64 (centsOf ps x.item * qtyPaid os x)] 123)) = .ok v2 w2 := hrun
        obtain ⟨c0, c1, c2⟩ := HAt.out.kept (HBz.out.block b hbB)
        have S0 : z0.cell? ⟨b, off + k * 3, none⟩ = some (.string x.item) ∧ z0.cell? ⟨b, off + k * 3 + 1, none⟩ = some (.int .i64 x.qty) := ⟨c0, c1⟩
        have hal : Below w.heap.size z0 (z0.alloc (.cells #[.string x.item, .int .i64 x.qty, .int .i64 (centsOf ps x.item * qtyPaid os x)] 123)) := (Below.refl _ _).alloc hsz _
        have S1 : (z0.alloc (.cells #[.string x.item, .int .i64 x.qty, .int .i64 (centsOf ps x.item * qtyPaid os x)] 123)).cell? ⟨b, off + k * 3, none⟩ = some (.string x.item) ∧ (z0.alloc (.cells #[.string x.item, .int .i64 x.qty, .int .i64 (centsOf ps x.item * qtyPaid os x)] 123)).cell? ⟨b, off + k * 3 + 1, none⟩ = some (.int .i64 x.qty) := ⟨(World.cell?_of_block (a := ⟨b, off + k * 3, none⟩) (hal.block b hbB)).trans c0, (World.cell?_of_block (a := ⟨b, off + k * 3 + 1, none⟩) (hal.block b hbB)).trans c1⟩
        have S2 : w2.cell? ⟨b, off + k * 3, none⟩ = some (.string x.item) ∧ w2.cell? ⟨b, off + k * 3 + 1, none⟩ = some (.int .i64 x.qty) := ⟨(World.cell?_of_block (a := ⟨b, off + k * 3, none⟩) (hb2.block b hbB)).trans c0, (World.cell?_of_block (a := ⟨b, off + k * 3 + 1, none⟩) (hb2.block b hbB)).trans c1⟩
        have HB2 := Lib.hid (HBz.out.trans hb2)
        have HR2 := Lib.hid hrow2
        clear hT hT2 hsum hrl hcm t0 hown0 hb2 hrow2 hg2 c0 c1 c2 hal
        generalize sumR (rowsV ps os (l.take k)) = SS at hw2 HSu ⊢
        go_wp2_with fail
        refine wp_region_held_drew (S := fun w' => w'.cell? ⟨b, off + k * 3, none⟩ = some (.string x.item) ∧ w'.cell? ⟨b, off + k * 3 + 1, none⟩ = some (.int .i64 x.qty)) (by kernel_rfl) (by rw [hz0e]; exact S0) (fun hHeld => ?_)
        rw [hz0e]
        clear hHeld hz0e
        refine wpAnyH_take (i := 0) (oi := { dst := some 85, op := Op.move (Operand.tmp 9), type := 48, pos := "l12_prices.go:78", after := #[], guard := none }) (v := ?_) rfl (by kernel_rfl) (by kernel_rfl) (by kernel_rfl) (fun _ _ _ h => h) (Or.inl ⟨by rfl, ?_⟩) (by assumption) ?_
        rotate_left
        · intro w hSw
          (try dsimp only at hSw)
          first | (go_simp; done) | (go_simp; with_reducible rfl)
        (try simp only [Act.put, List.setIfInBounds_toArray, List.set_cons_zero, List.set_cons_succ])
        refine wpAnyH_take (i := 1) (oi := { dst := some 86, op := Op.move (Operand.tmp 0), type := 51, pos := "l12_prices.go:78", after := #[], guard := none }) (v := ?_) rfl (by kernel_rfl) (by kernel_rfl) (by kernel_rfl) (fun _ _ _ h => h) (Or.inl ⟨by rfl, ?_⟩) (by assumption) ?_
        rotate_left
        · intro w hSw
          (try dsimp only at hSw)
          first | (go_simp; done) | (go_simp; with_reducible rfl)
        (try simp only [Act.put, List.setIfInBounds_toArray, List.set_cons_zero, List.set_cons_succ])
        refine wpAnyH_take (i := 2) (oi := { dst := some 87, op := Op.move (Operand.tmp 11), type := 3, pos := "l12_prices.go:78", after := #[], guard := none }) (v := ?_) rfl (by kernel_rfl) (by kernel_rfl) (by kernel_rfl) (fun _ _ _ h => h) (Or.inl ⟨by rfl, ?_⟩) (by assumption) ?_
        rotate_left
        · intro w hSw
          (try dsimp only at hSw)
          first | (go_simp; done) | (go_simp; with_reducible rfl)
        (try simp only [Act.put, List.setIfInBounds_toArray, List.set_cons_zero, List.set_cons_succ])
        refine wpAnyH_take (i := 3) (oi := { dst := some 88, op := Op.indexAddr 51 (Operand.tmp 86) (Operand.tmp 87), type := 0, pos := "l12_prices.go:78", after := #[{ on := 1, ground := Ground.data }, { on := 2, ground := Ground.data }], guard := none }) (v := ?_) rfl (by kernel_rfl) (by kernel_rfl) (by kernel_rfl) (fun _ _ _ h => h) (Or.inl ⟨by rfl, ?_⟩) (by assumption) ?_
        rotate_left
        · intro w hSw
          (try dsimp only at hSw)
          first | (go_simp; done) | (go_simp; with_reducible rfl)
        (try simp only [Act.put, List.setIfInBounds_toArray, List.set_cons_zero, List.set_cons_succ])
        refine wpAnyH_take (i := 4) (oi := { dst := some 89, op := Op.fieldAddr 117 (Operand.tmp 88) 0, type := 0, pos := "l12_prices.go:78", after := #[{ on := 3, ground := Ground.data }], guard := none }) (v := ?_) rfl (by kernel_rfl) (by kernel_rfl) (by kernel_rfl) (fun _ _ _ h => h) (Or.inl ⟨by rfl, ?_⟩) (by assumption) ?_
        rotate_left
        · intro w hSw
          (try dsimp only at hSw)
          first | (go_simp; done) | (go_simp; with_reducible rfl)
        (try simp only [Act.put, List.setIfInBounds_toArray, List.set_cons_zero, List.set_cons_succ])
        refine wpAnyH_take (i := 5) (oi := { dst := some 90, op := Op.load 9 (Operand.tmp 89), type := 9, pos := "l12_prices.go:78", after := #[{ on := 4, ground := Ground.data }], guard := none }) (v := ?_) rfl (by kernel_rfl) (by kernel_rfl) (by kernel_rfl) (fun _ _ _ h => h) (Or.inl ⟨by rfl, ?_⟩) (by assumption) ?_
        rotate_left
        · intro w hSw
          (try dsimp only at hSw)
          first | (go_simp; done) | (go_simp; with_reducible rfl)
        (try simp only [Act.put, List.setIfInBounds_toArray, List.set_cons_zero, List.set_cons_succ])
        refine wpAnyH_take (i := 6) (oi := { dst := some 91, op := Op.move (Operand.tmp 0), type := 51, pos := "l12_prices.go:78", after := #[], guard := none }) (v := ?_) rfl (by kernel_rfl) (by kernel_rfl) (by kernel_rfl) (fun _ _ _ h => h) (Or.inl ⟨by rfl, ?_⟩) (by assumption) ?_
        rotate_left
        · intro w hSw
          (try dsimp only at hSw)
          first | (go_simp; done) | (go_simp; with_reducible rfl)
        (try simp only [Act.put, List.setIfInBounds_toArray, List.set_cons_zero, List.set_cons_succ])
        refine wpAnyH_take (i := 7) (oi := { dst := some 92, op := Op.move (Operand.tmp 11), type := 3, pos := "l12_prices.go:78", after := #[], guard := none }) (v := ?_) rfl (by kernel_rfl) (by kernel_rfl) (by kernel_rfl) (fun _ _ _ h => h) (Or.inl ⟨by rfl, ?_⟩) (by assumption) ?_
        rotate_left
        · intro w hSw
          (try dsimp only at hSw)
          first | (go_simp; done) | (go_simp; with_reducible rfl)
        (try simp only [Act.put, List.setIfInBounds_toArray, List.set_cons_zero, List.set_cons_succ])
        refine wpAnyH_take (i := 8) (oi := { dst := some 93, op := Op.indexAddr 51 (Operand.tmp 91) (Operand.tmp 92), type := 0, pos := "l12_prices.go:78", after := #[{ on := 6, ground := Ground.data }, { on := 7, ground := Ground.data }], guard := none }) (v := ?_) rfl (by kernel_rfl) (by kernel_rfl) (by kernel_rfl) (fun _ _ _ h => h) (Or.inl ⟨by rfl, ?_⟩) (by assumption) ?_
        rotate_left
        · intro w hSw
          (try dsimp only at hSw)
          first | (go_simp; done) | (go_simp; with_reducible rfl)
        (try simp only [Act.put, List.setIfInBounds_toArray, List.set_cons_zero, List.set_cons_succ])
        refine wpAnyH_take (i := 9) (oi := { dst := some 94, op := Op.fieldAddr 117 (Operand.tmp 93) 1, type := 0, pos := "l12_prices.go:78", after := #[{ on := 8, ground := Ground.data }], guard := none }) (v := ?_) rfl (by kernel_rfl) (by kernel_rfl) (by kernel_rfl) (fun _ _ _ h => h) (Or.inl ⟨by rfl, ?_⟩) (by assumption) ?_
        rotate_left
        · intro w hSw
          (try dsimp only at hSw)
          first | (go_simp; done) | (go_simp; with_reducible rfl)
        (try simp only [Act.put, List.setIfInBounds_toArray, List.set_cons_zero, List.set_cons_succ])
        refine wpAnyH_take (i := 10) (oi := { dst := some 95, op := Op.load 2 (Operand.tmp 94), type := 2, pos := "l12_prices.go:78", after := #[{ on := 9, ground := Ground.data }], guard := none }) (v := ?_) rfl (by kernel_rfl) (by kernel_rfl) (by kernel_rfl) (fun _ _ _ h => h) (Or.inl ⟨by rfl, ?_⟩) (by assumption) ?_
        rotate_left
        · intro w hSw
          (try dsimp only at hSw)
          first | (go_simp; done) | (go_simp; with_reducible rfl)
        (try simp only [Act.put, List.setIfInBounds_toArray, List.set_cons_zero, List.set_cons_succ])
        refine wpAnyH_take (i := 11) (oi := { dst := some 96, op := Op.move (Operand.tmp 14), type := 2, pos := "l12_prices.go:78", after := #[], guard := none }) (v := ?_) rfl (by kernel_rfl) (by kernel_rfl) (by kernel_rfl) (fun _ _ _ h => h) (Or.inl ⟨by rfl, ?_⟩) (by assumption) ?_
        rotate_left
        · intro w hSw
          (try dsimp only at hSw)
          first | (go_simp; done) | (go_simp; with_reducible rfl)
        (try simp only [Act.put, List.setIfInBounds_toArray, List.set_cons_zero, List.set_cons_succ])
        refine wpAnyH_take (i := 12) (oi := { dst := some 97, op := Op.move (Operand.tmp 12), type := 2, pos := "l12_prices.go:78", after := #[], guard := none }) (v := ?_) rfl (by kernel_rfl) (by kernel_rfl) (by kernel_rfl) (fun _ _ _ h => h) (Or.inl ⟨by rfl, ?_⟩) (by assumption) ?_
        rotate_left
        · intro w hSw
          (try dsimp only at hSw)
          first | (go_simp; done) | (go_simp; with_reducible rfl)
        (try simp only [Act.put, List.setIfInBounds_toArray, List.set_cons_zero, List.set_cons_succ])
        refine wpAnyH_take (i := 13) (oi := { dst := some 98, op := Op.binOp BinOp.mul 2 (Operand.tmp 96) (Operand.tmp 97) 2, type := 2, pos := "l12_prices.go:78", after := #[{ on := 11, ground := Ground.data }, { on := 12, ground := Ground.data }], guard := none }) (v := ?_) rfl (by kernel_rfl) (by kernel_rfl) (by kernel_rfl) (fun _ _ _ h => h) (Or.inl ⟨by rfl, ?_⟩) (by assumption) ?_
        rotate_left
        · intro w hSw
          (try dsimp only at hSw)
          first | (go_simp; done) | (go_simp; with_reducible rfl)
        (try simp only [Act.put, List.setIfInBounds_toArray, List.set_cons_zero, List.set_cons_succ])
        refine wpAnyH_take (i := 14) (oi := { dst := some 99, op := Op.build 123 #[(0, Operand.tmp 90), (1, Operand.tmp 95), (2, Operand.tmp 98)], type := 123, pos := "l12_prices.go:78", after := #[{ on := 5, ground := Ground.data }, { on := 10, ground := Ground.data }, { on := 13, ground := Ground.data }], guard := none }) (v := ?_) rfl (by kernel_rfl) (by kernel_rfl) (by kernel_rfl) (fun _ _ _ h => h) (Or.inl ⟨by rfl, ?_⟩) (by assumption) ?_
        rotate_left
        · intro w hSw
          (try dsimp only at hSw)
          first | (go_simp; done) | (go_simp; with_reducible rfl)
        (try simp only [Act.put, List.setIfInBounds_toArray, List.set_cons_zero, List.set_cons_succ])
        refine wpAnyH_ready (rs := [15]) (by kernel_rfl) (by simp) ?_
        refine AllReadyH.cons (o := { dst := some 100, op := Op.buildSlice 48 1 #[(0, Operand.tmp 99)], type := 48, pos := "l12_prices.go:78", after := #[{ on := 14, ground := Ground.data }], guard := none }) rfl (fun K hK => ?_) AllReadyH.nil
        go_simp
        refine hK.out _ _ S1 (fun hHeld4 => ?_)
        clear hK K
        (try simp only [Act.put, List.setIfInBounds_toArray, List.set_cons_zero, List.set_cons_succ])
        refine wpAnyH_ready (rs := [16]) (by kernel_rfl) (by simp) ?_
        refine AllReadyH.cons rfl (fun K hK => ?_) AllReadyH.nil
        rw [if_pos (by rfl)]
        refine opwp_appendB _ _ _ rfl _ _ rfl rfl hrun ?_
        refine hK.out _ _ S2 (fun hHeld8 => ?_)
        clear hK K
        (try simp only [Act.put, List.setIfInBounds_toArray, List.set_cons_zero, List.set_cons_succ])
        refine wpAnyH_take (i := 17) (oi := { dst := some 9, op := Op.assign (Operand.tmp 101), type := 48, pos := "l12_prices.go:78", after := #[{ on := 16, ground := Ground.data }, { on := 16, ground := Ground.chain }, { on := 0, ground := Ground.phase }, { on := 1, ground := Ground.phase }, { on := 2, ground := Ground.phase }, { on := 3, ground := Ground.phase }, { on := 4, ground := Ground.phase }, { on := 5, ground := Ground.phase }, { on := 6, ground := Ground.phase }, { on := 7, ground := Ground.phase }, { on := 8, ground := Ground.phase }, { on := 9, ground := Ground.phase }, { on := 10, ground := Ground.phase }, { on := 11, ground := Ground.phase }, { on := 12, ground := Ground.phase }, { on := 13, ground := Ground.phase }, { on := 14, ground := Ground.phase }, { on := 15, ground := Ground.phase }, { on := 16, ground := Ground.phase }], guard := none }) (v := ?_) rfl (by kernel_rfl) (by kernel_rfl) (by kernel_rfl) (fun _ _ _ h => h) (Or.inl ⟨by rfl, ?_⟩) (by assumption) ?_
        rotate_left
        · intro w hSw
          (try dsimp only at hSw)
          first | (go_simp; done) | (go_simp; with_reducible rfl)
        (try simp only [Act.put, List.setIfInBounds_toArray, List.set_cons_zero, List.set_cons_succ])
        refine wpAnyH_done (by kernel_rfl) ?_ _
        go_wp2
        exact ⟨⟨k + 1, v2, by omega, rfl, by go_num, by rw [HSu.out], by show w2.ownsRow _ _ _ _ _ _; rw [HT.out, HT2.out, List.length_append]; exact HR2.out, by
          show ∀ y, _
          rw [HT.out]
          intro y hy
          rcases List.mem_append.1 hy with hy | hy
          · exact HHs.out y hy
          · rw [List.mem_singleton.1 hy]; exact HPp.out.symm, HB2⟩, by simp [intOf]; omega⟩
      have hji : (j : Int) < (on : Int) := by omega
      have hj0 : (0 : Int) ≤ (j : Int) := by omega
      obtain ⟨ob, ooff, hoa, hobB, hot⟩ := HOf.out.2 j hjl
      subst hoa
      have hot : OfAt w ob (ooff + j * 3) (atOf os j) := hot
      have hok := of_ok ((ofs_parts HVO.out).1 j (by rw [HOl.out]; exact hjl))
      have HUp : Hid (paidUp os x (j + 1) = if (atOf os j).item = x.item then paidZ x.qty (atOf os j).buy (atOf os j).free else paidUp os x j) := rfl
      have hln2 := ln_ok HOx.out
      have HIy := Lib.hid (HMo.out j hjl)
      generalize atOf os j = y at hot hok HUp HIy
      have HOt := Lib.hid hot
      obtain ⟨g1, g2, g3, g4⟩ := hok
      obtain ⟨q0, q1, q2⟩ := hot.kept (HBi.out.block ob hobB)
      clear hot
      by_cases he : y.item = x.item
      rotate_left
      · have heq : (y.item.toList == x.item.toList) = false := by rw [str_eqP]; exact decide_eq_false he
        have HU : Hid (paidUp os x (j + 1) = paidUp os x j) := HUp.out.trans (if_neg he)
        clear he
        go_wp2_with fail
        go_quiet (fail)
        go_wp2
        exact ⟨⟨j + 1, by omega, by go_num, by rw [HU.out], HOi, HBi.out.trans ⟨rfl, rfl, rfl, Nat.le_refl _, fun _ _ => rfl⟩⟩, by simp [intOf]; omega⟩
      have heq : (y.item.toList == x.item.toList) = true := by rw [str_eqP]; exact decide_eq_true he
      have HU : Hid (paidUp os x (j + 1) = paidZ x.qty y.buy y.free) := HUp.out.trans (if_pos he)
      clear he
      generalize paidUp os x j = pu
      go_wp2_with fail
      go_quiet (fail)
      obtain ⟨z0, hz0e⟩ : ∃ z0, (wr.drewN nq).drew = z0 := ⟨_, rfl⟩
      have t0 : Below wr.heap.size wr z0 := by rw [← hz0e]; exact ⟨rfl, rfl, rfl, Nat.le_refl _, fun _ _ => rfl⟩
      have hO0 := row_below (B := 0) HOi.out t0
      have HBz := Lib.hid (HBi.out.trans (t0.mono hsi))
      have hsz := HBz.out.size
      obtain ⟨c0, c1, c2⟩ := HAt.out.kept (HBz.out.block b hbB)
      obtain ⟨e0, e1, e2⟩ := HOt.out.kept (HBz.out.block ob hobB)
      have S0 : z0.cell? ⟨b, off + k * 3 + 1, none⟩ = some (.int .i64 x.qty) ∧ z0.cell? ⟨ob, ooff + j * 3, none⟩ = some (.string y.item) ∧ z0.cell? ⟨ob, ooff + j * 3 + 1, none⟩ = some (.int .i64 y.buy) ∧ z0.cell? ⟨ob, ooff + j * 3 + 2, none⟩ = some (.int .i64 y.free) := ⟨c1, e0, e1, e2⟩
      clear q0 q1 q2 d0 d1 d2 c0 c1 c2 e0 e1 e2 t0
      have hyi := HIy.out
      go_wp2_with fail
      refine wp_region_held_drew (S := fun w' => w'.cell? ⟨b, off + k * 3 + 1, none⟩ = some (.int .i64 x.qty) ∧ w'.cell? ⟨ob, ooff + j * 3, none⟩ = some (.string y.item) ∧ w'.cell? ⟨ob, ooff + j * 3 + 1, none⟩ = some (.int .i64 y.buy) ∧ w'.cell? ⟨ob, ooff + j * 3 + 2, none⟩ = some (.int .i64 y.free)) (by kernel_rfl) (by rw [hz0e]; exact S0) (fun hHeld => ?_)
      rw [hz0e]
      clear hHeld hz0e
      refine wpAnyH_take (i := 0) (oi := { dst := some 75, op := Op.move (Operand.tmp 0), type := 51, pos := "l12_prices.go:75", after := #[], guard := none }) (v := ?_) rfl (by kernel_rfl) (by kernel_rfl) (by kernel_rfl) (fun _ _ _ h => h) (Or.inl ⟨by rfl, ?_⟩) (by assumption) ?_
      rotate_left
      · intro w hSw
        (try dsimp only at hSw)
        first | (go_simp; done) | (go_simp; with_reducible rfl)
      (try simp only [Act.put, List.setIfInBounds_toArray, List.set_cons_zero, List.set_cons_succ])
      refine wpAnyH_take (i := 1) (oi := { dst := some 76, op := Op.move (Operand.tmp 11), type := 3, pos := "l12_prices.go:75", after := #[], guard := none }) (v := ?_) rfl (by kernel_rfl) (by kernel_rfl) (by kernel_rfl) (fun _ _ _ h => h) (Or.inl ⟨by rfl, ?_⟩) (by assumption) ?_
      rotate_left
      · intro w hSw
        (try dsimp only at hSw)
        first | (go_simp; done) | (go_simp; with_reducible rfl)
      (try simp only [Act.put, List.setIfInBounds_toArray, List.set_cons_zero, List.set_cons_succ])
      refine wpAnyH_take (i := 2) (oi := { dst := some 77, op := Op.indexAddr 51 (Operand.tmp 75) (Operand.tmp 76), type := 0, pos := "l12_prices.go:75", after := #[{ on := 0, ground := Ground.data }, { on := 1, ground := Ground.data }], guard := none }) (v := ?_) rfl (by kernel_rfl) (by kernel_rfl) (by kernel_rfl) (fun _ _ _ h => h) (Or.inl ⟨by rfl, ?_⟩) (by assumption) ?_
      rotate_left
      · intro w hSw
        (try dsimp only at hSw)
        first | (go_simp; done) | (go_simp; with_reducible rfl)
      (try simp only [Act.put, List.setIfInBounds_toArray, List.set_cons_zero, List.set_cons_succ])
      refine wpAnyH_take (i := 3) (oi := { dst := some 78, op := Op.fieldAddr 117 (Operand.tmp 77) 1, type := 0, pos := "l12_prices.go:75", after := #[{ on := 2, ground := Ground.data }], guard := none }) (v := ?_) rfl (by kernel_rfl) (by kernel_rfl) (by kernel_rfl) (fun _ _ _ h => h) (Or.inl ⟨by rfl, ?_⟩) (by assumption) ?_
      rotate_left
      · intro w hSw
        (try dsimp only at hSw)
        first | (go_simp; done) | (go_simp; with_reducible rfl)
      (try simp only [Act.put, List.setIfInBounds_toArray, List.set_cons_zero, List.set_cons_succ])
      refine wpAnyH_take (i := 4) (oi := { dst := some 79, op := Op.load 2 (Operand.tmp 78), type := 2, pos := "l12_prices.go:75", after := #[{ on := 3, ground := Ground.data }], guard := none }) (v := ?_) rfl (by kernel_rfl) (by kernel_rfl) (by kernel_rfl) (fun _ _ _ h => h) (Or.inl ⟨by rfl, ?_⟩) (by assumption) ?_
      rotate_left
      · intro w hSw
        (try dsimp only at hSw)
        first | (go_simp; done) | (go_simp; with_reducible rfl)
      (try simp only [Act.put, List.setIfInBounds_toArray, List.set_cons_zero, List.set_cons_succ])
      refine wpAnyH_take (i := 5) (oi := { dst := some 80, op := Op.move (Operand.tmp 2), type := 55, pos := "l12_prices.go:75", after := #[], guard := none }) (v := ?_) rfl (by kernel_rfl) (by kernel_rfl) (by kernel_rfl) (fun _ _ _ h => h) (Or.inl ⟨by rfl, ?_⟩) (by assumption) ?_
      rotate_left
      · intro w hSw
        (try dsimp only at hSw)
        first | (go_simp; done) | (go_simp; with_reducible rfl)
      (try simp only [Act.put, List.setIfInBounds_toArray, List.set_cons_zero, List.set_cons_succ])
      refine wpAnyH_take (i := 6) (oi := { dst := some 81, op := Op.move (Operand.tmp 15), type := 3, pos := "l12_prices.go:75", after := #[], guard := none }) (v := ?_) rfl (by kernel_rfl) (by kernel_rfl) (by kernel_rfl) (fun _ _ _ h => h) (Or.inl ⟨by rfl, ?_⟩) (by assumption) ?_
      rotate_left
      · intro w hSw
        (try dsimp only at hSw)
        first | (go_simp; done) | (go_simp; with_reducible rfl)
      (try simp only [Act.put, List.setIfInBounds_toArray, List.set_cons_zero, List.set_cons_succ])
      refine wpAnyH_take (i := 7) (oi := { dst := some 82, op := Op.indexAddr 55 (Operand.tmp 80) (Operand.tmp 81), type := 0, pos := "l12_prices.go:75", after := #[{ on := 5, ground := Ground.data }, { on := 6, ground := Ground.data }], guard := none }) (v := ?_) rfl (by kernel_rfl) (by kernel_rfl) (by kernel_rfl) (fun _ _ _ h => h) (Or.inl ⟨by rfl, ?_⟩) (by assumption) ?_
      rotate_left
      · intro w hSw
        (try dsimp only at hSw)
        first | (go_simp; done) | (go_simp; with_reducible rfl)
      (try simp only [Act.put, List.setIfInBounds_toArray, List.set_cons_zero, List.set_cons_succ])
      refine wpAnyH_take (i := 8) (oi := { dst := some 83, op := Op.load 120 (Operand.tmp 82), type := 120, pos := "l12_prices.go:75", after := #[{ on := 7, ground := Ground.data }], guard := none }) (v := ?_) rfl (by kernel_rfl) (by kernel_rfl) (by kernel_rfl) (fun _ _ _ h => h) (Or.inl ⟨by rfl, ?_⟩) (by assumption) ?_
      rotate_left
      · intro w hSw
        (try dsimp only at hSw)
        first | (go_simp; done) | (go_simp; with_reducible rfl)
      (try simp only [Act.put, List.setIfInBounds_toArray, List.set_cons_zero, List.set_cons_succ])
      refine wpAnyH_ready (rs := [9]) (by kernel_rfl) (by simp) ?_
      refine AllReadyH.cons (o := { dst := some 84, op := Op.call { callee := Callee.value (Operand.func 87), args := #[Operand.tmp 79, Operand.tmp 83], argTypes := #[2, 120] }, type := 2, pos := "l12_prices.go:75", after := #[{ on := 4, ground := Ground.data }, { on := 8, ground := Ground.data }], guard := none }) rfl (fun K hK => ?_) AllReadyH.nil
      go_simp
      go_at_call 87
      refine (l12Paid y.item x.qty y.buy y.free _ (by omega) (by omega) g1 g2 g3 g4).mono ?_
      rintro e w3 ⟨rfl, hb3⟩
      refine hK.out _ _ ⟨(hb3.cell (block_lt_of_cell S0.1)).trans S0.1, (hb3.cell (block_lt_of_cell S0.2.1)).trans S0.2.1, (hb3.cell (block_lt_of_cell S0.2.2.1)).trans S0.2.2.1, (hb3.cell (block_lt_of_cell S0.2.2.2)).trans S0.2.2.2⟩ (fun hHeld4 => ?_)
      clear hK K
      (try simp only [Act.put, List.setIfInBounds_toArray, List.set_cons_zero, List.set_cons_succ])
      refine wpAnyH_take (i := 10) (oi := { dst := some 14, op := Op.assign (Operand.tmp 84), type := 2, pos := "l12_prices.go:75", after := #[{ on := 9, ground := Ground.data }, { on := 9, ground := Ground.chain }, { on := 0, ground := Ground.phase }, { on := 1, ground := Ground.phase }, { on := 2, ground := Ground.phase }, { on := 3, ground := Ground.phase }, { on := 4, ground := Ground.phase }, { on := 5, ground := Ground.phase }, { on := 6, ground := Ground.phase }, { on := 7, ground := Ground.phase }, { on := 8, ground := Ground.phase }, { on := 9, ground := Ground.phase }], guard := none }) (v := ?_) rfl (by kernel_rfl) (by kernel_rfl) (by kernel_rfl) (fun _ _ _ h => h) (Or.inl ⟨by rfl, ?_⟩) (by assumption) ?_
      rotate_left
      · intro w hSw
        (try dsimp only at hSw)
        first | (go_simp; done) | (go_simp; with_reducible rfl)
      (try simp only [Act.put, List.setIfInBounds_toArray, List.set_cons_zero, List.set_cons_succ])
      refine wpAnyH_done (by kernel_rfl) ?_ _
      have HO3 := row_below (B := 0) hO0 hb3
      have HB3 := Lib.hid (HBz.out.trans (hb3.mono hsz))
      clear hO0 hb3 S0
      go_wp2
      exact ⟨⟨j + 1, by omega, by go_num, by rw [HU.out], HO3, HB3⟩, by simp [intOf]; omega⟩
end Go.Proofs.Ytdbdmfaphdjdpaa
