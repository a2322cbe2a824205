/- The operations of a device, of a cart: the walks of impl.placeOf, impl.Named and spec.Named. -/
import Derived.Test.YtcebolkooohjhaaOwnB
import Derived.Test.YtcebolkooohjhaaCartSpecW
import Derived.Deep.Cut
namespace Go.Proofs.Ytcebolkooohjhaa
open Go.RowKit

/-- What Named answers. -/
def ofDev (dev : Int) (o : OpV) : Bool := decide (o.dev = dev)
def namedL (xs : List Int) (l : List OpV) (dev : Int) : List OpV := if cartB xs l = true then l.filter (ofDev dev) else []
theorem named_no {xs : List Int} {l : List OpV} {dev : Int} (h : cartB xs l = false) : namedL xs l dev = [] := by unfold namedL; rw [h]; rfl
theorem named_yes {xs : List Int} {l : List OpV} {dev : Int} (h : cartB xs l = true) : namedL xs l dev = l.filter (ofDev dev) := by unfold namedL; rw [if_pos h]
theorem named_len (xs : List Int) (l : List OpV) (dev : Int) : (namedL xs l dev).length ≤ l.length := by
  unfold namedL
  split
  · exact List.length_filter_le _ _
  · exact Nat.zero_le _
theorem cart_true {xs : List Int} {l : List OpV} (h : cartB xs l = true) : vecOk xs = true ∧ (∀ d, d < 4 → devB xs l d = true) ∧ stOf xs 4 = l.length := by
  unfold cartB at h
  simp only [Bool.and_eq_true, List.all_eq_true, decide_eq_true_eq] at h
  exact ⟨h.1, fun d hd => h.2.1 d (by simpa using hd), h.2.2⟩
def segOf (xs : List Int) (l : List OpV) (d : Nat) : List OpV := (l.drop (stOf xs d)).take (xs.getD d 0).toNat
theorem seg_dev {xs : List Int} {l : List OpV} {d : Nat} (h : devB xs l d = true) : ∀ o ∈ segOf xs l d, o.ok = true ∧ o.dev = (d : Int) := by
  unfold devB at h
  rw [Bool.and_eq_true] at h
  have hr := h.2
  unfold runB at hr
  rw [List.all_eq_true] at hr
  intro o ho
  obtain ⟨i, hi, e⟩ := List.mem_iff_getElem.1 ho
  have hic : i < (xs.getD d 0).toNat := by unfold segOf at hi; rw [List.length_take] at hi; omega
  have hf := hr i (by simpa using hic)
  have ea : atOp l (stOf xs d + i) = o := by
    rw [← at_cut (st := stOf xs d) hic]
    unfold atOp
    rw [List.getD_eq_getElem?_getD, ← e]
    show ((segOf xs l d)[i]?).getD OpV.zero = _
    rw [List.getElem?_eq_getElem hi]
    rfl
  unfold fitB at hf
  rw [ea] at hf
  simp only [Bool.and_eq_true, decide_eq_true_eq] at hf
  exact ⟨hf.1, hf.2.1⟩
theorem drop_seg {xs : List Int} {l : List OpV} (d : Nat) : l.drop (stOf xs d) = segOf xs l d ++ l.drop (stOf xs (d + 1)) := by
  have e : l.drop (stOf xs (d + 1)) = (l.drop (stOf xs d)).drop (xs.getD d 0).toNat := by rw [List.drop_drop]; rfl
  rw [e]
  exact (List.take_append_drop _ _).symm
theorem list_segs {xs : List Int} {l : List OpV} (h : stOf xs 4 = l.length) : l = segOf xs l 0 ++ (segOf xs l 1 ++ (segOf xs l 2 ++ segOf xs l 3)) := by
  have h0 := drop_seg (xs := xs) (l := l) 0
  have h1 := drop_seg (xs := xs) (l := l) 1
  have h2 := drop_seg (xs := xs) (l := l) 2
  have h3 := drop_seg (xs := xs) (l := l) 3
  have e4 : l.drop (stOf xs 4) = [] := by rw [h]; exact List.drop_length
  rw [e4, List.append_nil] at h3
  rw [h3] at h2
  rw [h2] at h1
  rw [h1] at h0
  have z : l.drop (stOf xs 0) = l := List.drop_zero
  rw [z] at h0
  exact h0
theorem filter_seg {xs : List Int} {l : List OpV} {d : Nat} (h : devB xs l d = true) (dev : Int) : (segOf xs l d).filter (ofDev dev) = if dev = (d : Int) then segOf xs l d else [] := by
  by_cases e : dev = (d : Int)
  · rw [if_pos e]
    refine List.filter_eq_self.2 fun o ho => ?_
    unfold ofDev
    exact decide_eq_true ((seg_dev h o ho).2.trans e.symm)
  · rw [if_neg e]
    refine List.filter_eq_nil_iff.2 fun o ho => ?_
    unfold ofDev
    rw [decide_eq_true_eq]
    intro e2
    exact e (e2.symm.trans (seg_dev h o ho).2)
theorem named_seg {xs : List Int} {l : List OpV} (h : cartB xs l = true) {d : Nat} (hd : d < 4) : l.filter (ofDev (d : Int)) = segOf xs l d := by
  obtain ⟨_, h1, h2⟩ := cart_true h
  have e := congrArg (List.filter (ofDev (d : Int))) (list_segs (xs := xs) h2)
  rw [List.filter_append, List.filter_append, List.filter_append, filter_seg (h1 0 (by omega)), filter_seg (h1 1 (by omega)), filter_seg (h1 2 (by omega)), filter_seg (h1 3 (by omega))] at e
  rw [e]
  obtain rfl | rfl | rfl | rfl : d = 0 ∨ d = 1 ∨ d = 2 ∨ d = 3 := by omega
  · simp
  · simp
  · simp
  · simp
theorem named_none {xs : List Int} {l : List OpV} {dev : Int} (h : inB dev 0 3 = false) : namedL xs l dev = [] := by
  by_cases hc : cartB xs l = true
  · rw [named_yes hc]
    refine List.filter_eq_nil_iff.2 fun o ho => ?_
    obtain ⟨_, h1, h2⟩ := cart_true hc
    rw [list_segs (xs := xs) h2] at ho
    have hn : ¬ (0 ≤ dev ∧ dev ≤ 3) := fun hh => by rw [inB_iff.2 hh] at h; cases h
    unfold ofDev
    rw [decide_eq_true_eq]
    intro e
    have : ∃ d : Nat, d < 4 ∧ o.dev = (d : Int) := by
      rcases List.mem_append.1 ho with h | h
      · exact ⟨0, by omega, (seg_dev (h1 0 (by omega)) o h).2⟩
      rcases List.mem_append.1 h with h | h
      · exact ⟨1, by omega, (seg_dev (h1 1 (by omega)) o h).2⟩
      rcases List.mem_append.1 h with h | h
      · exact ⟨2, by omega, (seg_dev (h1 2 (by omega)) o h).2⟩
      · exact ⟨3, by omega, (seg_dev (h1 3 (by omega)) o h).2⟩
    obtain ⟨d, hd, e2⟩ := this
    omega
  · exact named_no (by simpa using hc)
theorem stOf_le {xs : List Int} (h : vecOk xs = true) : ∀ d, d ≤ 4 → stOf xs d ≤ 40 * d
  | 0, _ => Nat.le_refl _
  | d + 1, hd => by
    have h1 := stOf_le h d (by omega)
    have h2 := vec_at h (d := d) (by omega)
    show stOf xs d + (xs.getD d 0).toNat ≤ _
    omega
theorem stOf_mono (xs : List Int) : ∀ d e, d ≤ e → stOf xs d ≤ stOf xs e
  | d, 0, h => by obtain rfl : d = 0 := by omega
                  exact Nat.le_refl _
  | d, e + 1, h => by
    rcases Nat.lt_or_ge d (e + 1) with h1 | h1
    · exact Nat.le_trans (stOf_mono xs d e (by omega)) (Nat.le_add_right _ _)
    · obtain rfl : d = e + 1 := by omega
      exact Nat.le_refl _

theorem deviceOkN (dev : Int) (w : World) : Calls Try.prog 38 #[.int .i64 dev] w fun e w' => e = .returned (.bool (inB dev 0 3)) ∧ w = w' := by
  go_enter Try.func38, Try.ntmps38
  go_wp2_with fail
  refine (inRange _ _ _ _).mono ?_
  rintro e w' ⟨rfl, rfl⟩
  go_wp2
  go_ret
  exact ⟨rfl, rfl⟩

set_option maxRecDepth 100000 in
set_option maxHeartbeats 1000000 in
theorem placeOf1 (w : World) (B : Nat) (av ao : Option Addr) (cv no co : Nat) (xs : List Int) (hx : Ints w B av 4 xs) (hB : B ≤ w.heap.size) (hcv : 4 ≤ cv) (hv : vecOk xs = true) (d : Nat) (hd : d < 4) : Calls Try.prog 39 #[.agg #[.slice av 4 cv, .slice ao no co], .int .i64 (d : Int), .int .i64 1] w fun e w' => e = .returned (.int .i64 (stOf xs d : Int)) ∧ Below w.heap.size w w' := by
  have hb0 : Below w.heap.size w (w.alloc (.cells #[.slice av 4 cv, .slice ao no co] 30)) := (Below.refl _ w).alloc (Nat.le_refl _) _
  have HV := Lib.hid (hx.below hb0 hB)
  have HB := Lib.hid hb0
  have HX := Lib.hid (boxAt (Below.refl _ (w.alloc (.cells #[.slice av 4 cv, .slice ao no co] 30))))
  have HAt := Lib.hid (fun d (hd : d < 4) => vec_at hv hd)
  have HLe := Lib.hid (fun k (hk : k ≤ 4) => stOf_le hv k hk)
  have hdi : (d : Int) ≤ (cv : Int) := by omega
  clear hx hb0 hv
  go_enter Try.func39, Try.ntmps39
  go_wp2_with fail
  generalize w.alloc (.cells #[.slice av 4 cv, .slice ao no co] 30) = w0 at HV HB HX ⊢
  obtain ⟨c0, c1⟩ := pair_cells HX.out
  go_wp2
  go_loop [7, 17] (fun q i => ∃ k m : Nat, k ≤ d ∧ i = .int .i64 (k : Int) ∧ q = .int .i64 (m : Int) ∧ m ≤ 160 ∧ Hid (m = stOf xs k)) (fun _ i => d - (intOf i).toNat)
  case atStart => exact ⟨0, 0, by omega, rfl, rfl, by omega, rfl⟩
  case round =>
    obtain ⟨k, m, hk, rfl, rfl, hm, HM⟩ := hrel
    by_cases hlt : k < d
    · obtain ⟨bv, ov, rfl, hbv, hcv'⟩ := HV.out.2 k (by omega)
      obtain ⟨g1, g2, g3⟩ := HAt.out k (by omega)
      have hle := HLe.out (k + 1) (by omega)
      obtain ⟨c, hcx⟩ := Int.eq_ofNat_of_zero_le g1
      have HSt : Hid (m + c = stOf xs (k + 1)) := by show _ = stOf xs k + (xs.getD k 0).toNat; rw [hcx, HM.out]; rfl
      have hmc : m + c ≤ 160 := by rw [HSt.out]; omega
      rw [hcx] at hcv'
      clear hcx g1 g2 g3 hle
      go_wp2
      go_round
      case rel => exact ⟨k + 1, m + c, by omega, by go_num, by go_num, hmc, HSt⟩
      case measure => simp [intOf]; omega
    · obtain rfl : k = d := by omega
      go_wp2
      go_ret
      exact ⟨by rw [HM.out]; rfl, HB.out⟩
theorem filt_step {q : OpV → Bool} {l : List OpV} {k : Nat} (hk : k < l.length) : (l.take (k + 1)).filter q = if q (atOp l k) = true then (l.take k).filter q ++ [atOp l k] else (l.take k).filter q := by
  have e : l[k] = atOp l k := by unfold atOp; rw [List.getD_eq_getElem?_getD, List.getElem?_eq_getElem hk]; rfl
  rw [List.take_succ_eq_append_getElem hk, List.filter_append, e]
  by_cases h : q (atOp l k) = true
  · rw [if_pos h, List.filter_cons_of_pos h]; rfl
  · rw [if_neg h, List.filter_cons_of_neg h]; simp
set_option maxRecDepth 100000 in
set_option maxHeartbeats 4000000 in
theorem specNamed (w : World) (B : Nat) (av ao : Option Addr) (nv cv no co : Nat) (xs : List Int) (l : List OpV) (dev : Int) (hx : Ints w B av nv xs) (h : Ops w B ao no l) (hB : B ≤ w.heap.size) (hv : nv ≤ 1048576) (hn : no ≤ 1048576) (hm : ∀ i, i < no → (atOp l i).item.size ≤ 1048576) :
    Calls Try.prog 13 #[.agg #[.slice av nv cv, .slice ao no co], .int .i64 dev] w (OpsPost (namedL xs l dev) w) := by
  obtain ⟨i0, hi, hz0, hz1, hz2⟩ := info_parts Try.infoOp
  have hb0 : Below w.heap.size w (w.alloc (.cells #[.slice av nv cv, .slice ao no co] 30)) := (Below.refl _ w).alloc (Nat.le_refl _) _
  have HV := Lib.hid (hx.below hb0 hB)
  have HO := Lib.hid (h.below hb0 hB)
  have HB := Lib.hid hb0
  have HX := Lib.hid (boxAt (Below.refl _ (w.alloc (.cells #[.slice av nv cv, .slice ao no co] 30))))
  have HL := Lib.hid h.1
  have HM := Lib.hid hm
  have hsz : w.heap.size + 1 ≤ (w.alloc (.cells #[.slice av nv cv, .slice ao no co] 30)).heap.size := by show _ ≤ (w.heap.push _).size; simp
  have hBw := hB
  clear hx h hb0 hm hB
  go_enter Try.func13, Try.ntmps13
  go_upto_region 1 with fail
  generalize w.alloc (.cells #[.slice av nv cv, .slice ao no co] 30) = w0 at HV HO HB HX hsz ⊢
  have hown0 : (w0.alloc (.cells #[] 48)).ownsRow (w.heap.size + 1) 48 8 (.slice (some ⟨w0.heap.size, 0, none⟩) 0 0) 0 [] := World.ownsRow_made w0 #[] 0 hsz (by unfold maxLen; omega) rfl
  have HOw := Lib.hid hown0
  have HB1 : Hid (Below (w.heap.size + 1) w0 (w0.alloc (.cells #[] 48))) := (Below.refl _ w0).alloc hsz _
  clear hown0
  go_wp2
  go_loopw [5, 6] (fun v i wr => ∃ (k : Nat) (vv : Value), k ≤ no ∧ vv = v ∧ i = .int .i64 (k : Int) ∧ Hid (cartB xs l = true ∨ k = 0) ∧ Hid (wr.ownsRow (w.heap.size + 1) 48 8 v ((l.take k).filter (ofDev dev)).length (opCells ((l.take k).filter (ofDev dev)))) ∧ Hid (Below (w.heap.size + 1) w0 wr)) (fun _ i _ => no - (intOf i).toNat)
  case atStart => exact ⟨0, _, Nat.zero_le _, rfl, rfl, .inr rfl, HOw, HB1⟩
  case round =>
    obtain ⟨k, vv, hk, hvv, rfl, HK, HR, HBr⟩ := hrel
    subst hvv
    clear HOw HB1
    have hs1 := HBr.out.size
    obtain ⟨c0, c1⟩ := pair_cells ((HBr.out.block _ (by omega)).trans HX.out)
    have HVr := Lib.hid (HV.out.below HBr.out (by omega))
    have HOr := Lib.hid (HO.out.below HBr.out (by omega))
    go_wp2_with fail
    refine (specCartOk wr B av ao nv cv no co xs l HVr.out HOr.out (by omega) hv hn HM.out).mono ?_
    rintro e w1 ⟨rfl, hb1⟩
    have HB1 := Lib.hid (HBr.out.trans (hb1.mono (by omega)))
    have HO1 := Lib.hid (HOr.out.below hb1 (by omega))
    have hR1 : w1.ownsRow (w.heap.size + 1) 48 8 vv ((l.take k).filter (ofDev dev)).length (opCells ((l.take k).filter (ofDev dev))) := HR.out.kept (row := none) ⟨hb1.os, hb1.tape, hb1.output, hb1.size, fun j hj _ => hb1.block j hj⟩ (by rcases vv.ownBlock with _ | g; exact .inl rfl; exact .inr (fun h => by cases h))
    have HR1 := Lib.hid hR1
    have hs2 := hb1.size
    clear hb1 hR1 HR HBr HVr HOr c0 c1
    obtain ⟨c0, c1⟩ := pair_cells ((HB1.out.block _ (by omega)).trans HX.out)
    rcases hcb : cartB xs l with _ | _
    · have HF := Lib.hid (named_no (dev := dev) hcb)
      have hk0 : k = 0 := by rcases HK.out with h | h; rw [hcb] at h; cases h; exact h
      subst hk0
      clear hcb
      have HP : Hid (∃ a c, vv = .slice a 0 c ∧ OwnOps w1 w.heap.size w1.heap.size a 0 []) := by
        rcases HR1.out.2 with ⟨e, _⟩ | ⟨g, c, cur, e, _⟩
        · exact ⟨none, 0, e, own_none _ _ _ _⟩
        · exact ⟨_, c, e, own_none _ _ _ _⟩
      obtain ⟨ra, rc, rfl, hown⟩ := HP.out
      have HOo := Lib.hid hown
      clear hown HP HR1
      go_wp2
      go_ret
      exact ⟨ra, rc, by rw [HF.out]; rfl, by rw [HF.out]; exact HOo.out, HB.out.trans (HB1.out.mono (by omega))⟩
    have HCb := Lib.hid hcb
    have HF := Lib.hid (named_yes (dev := dev) hcb)
    clear hcb
    by_cases hlt : k < no
    rotate_left
    · obtain rfl : k = no := by omega
      have HT : Hid (l.take k = l) := by show _ = _; rw [← HL.out]; exact List.take_length
      rw [HT.out] at HR1
      have HP : Hid (∃ a c, vv = .slice a (l.filter (ofDev dev)).length c ∧ OwnOps w1 w.heap.size w1.heap.size a (l.filter (ofDev dev)).length (l.filter (ofDev dev))) := by
        have hr := HR1.out
        rcases hr.2 with ⟨e, e2⟩ | ⟨g, c, cur, e, r⟩
        · subst e
          rw [e2] at hr ⊢
          exact ⟨none, 0, rfl, (own_of_cells hr (Nat.le_refl _)).more (by omega) (Nat.le_refl _)⟩
        · subst e
          exact ⟨_, c, rfl, (own_of_cells hr (Nat.le_refl _)).more (by omega) (Nat.le_refl _)⟩
      obtain ⟨ra, rc, rfl, hown⟩ := HP.out
      have HOo := Lib.hid hown
      clear hown HP HR1
      generalize l.filter (ofDev dev) = L at HF HOo ⊢
      go_wp2
      go_ret
      exact ⟨ra, rc, by rw [HF.out]; rfl, by rw [HF.out]; exact HOo.out, HB.out.trans (HB1.out.mono (by omega))⟩
    have HSt := Lib.hid (filt_step (q := ofDev dev) (l := l) (k := k) (by rw [HL.out]; exact hlt))
    obtain ⟨b, off, rfl, hb, ho⟩ := HO1.out.2 k hlt
    have HOk : Hid (OpAt w1 b (off + k * 8) (atOp l k)) := ho
    have hlen : ((l.take k).filter (ofDev dev)).length ≤ 1048576 := by
      have := List.length_filter_le (ofDev dev) (l.take k)
      have := List.length_take_le k l
      omega
    have HDv : Hid (ofDev dev (atOp l k) = decide ((atOp l k).dev = dev)) := rfl
    clear ho
    generalize (l.take k).filter (ofDev dev) = L at HR1 HSt hlen
    generalize atOp l k = x at HOk HSt HDv
    obtain ⟨d0, d1, d2, d3, d4, d5, d6, d7⟩ := HOk.out
    by_cases hd : x.dev = dev
    rotate_left
    · have hbq : (x.dev == dev) = false := by rw [beq_eq_false_iff_ne]; exact hd
      have HE : Hid ((l.take (k + 1)).filter (ofDev dev) = L) := by show _ = _; rw [HSt.out, HDv.out, decide_eq_false hd]; rfl
      rw [← HE.out] at HR1
      clear hd
      go_wp2
      go_roundw
      case rel => exact ⟨k + 1, _, by omega, rfl, by go_num, .inl HCb.out, HR1, HB1⟩
      case measure => simp [intOf]; omega
    have hbq : (x.dev == dev) = true := by rw [hd]; exact beq_self_eq_true _
    have HE : Hid ((l.take (k + 1)).filter (ofDev dev) = L ++ [x]) := by show _ = _; rw [HSt.out, HDv.out, decide_eq_true hd]; rfl
    clear hd
    have hown1 := HR1.out.alloc (.cells #[.int .i64 x.dev, .int .i64 x.seq, .int .i64 x.stamp, .int .i64 x.kind, .string x.item, .int .i64 x.qty, .int .i64 x.level, .int .i64 x.undos] 48)
    go_wp2_with (at_builtin; refine wpList_append_own _ rfl _ _ 28 rfl (w.heap.size + 1) 48 i0 (.agg #[.int .i64 0, .int .i64 0, .int .i64 0, .int .i64 0, .string ⟨#[]⟩, .int .i64 0, .int .i64 0, .int .i64 0]) 8 72 Try.underlying28 hi hz0 hz1 hz2 rfl (by decide) _ _ _ rfl hown1 ⟨w1.heap.size, 0, none⟩ 1 1 (opRow x) rfl ?c0 ?c1 ?c2 ?c3 ?c4 ?c5 ?_)
    case c0 => rfl
    case c1 =>
      intro j u hj
      have hjl : j < 8 := by
        rcases Nat.lt_or_ge j 8 with h' | h'
        · exact h'
        · rw [List.getElem?_eq_none (by show 8 ≤ j; exact h')] at hj; cases hj
      rw [add_at, Nat.zero_add, cell_of_row _ _ _ _ _ _ (heap_alloc_new w1 _)]
      obtain rfl | rfl | rfl | rfl | rfl | rfl | rfl | rfl : j = 0 ∨ j = 1 ∨ j = 2 ∨ j = 3 ∨ j = 4 ∨ j = 5 ∨ j = 6 ∨ j = 7 := by omega
      all_goals exact hj
    case c2 =>
      intro u hu
      exact opCells_one [x] u (by show u ∈ opRow x ++ []; rw [List.append_nil]; exact hu)
    case c3 => unfold maxLen; omega
    case c4 => omega
    case c5 => simp; omega
    intro v' w2 hown2 hgrow _
    have HB2 := Lib.hid ((HB1.out.alloc (by omega) (.cells #[.int .i64 x.dev, .int .i64 x.seq, .int .i64 x.stamp, .int .i64 x.kind, .string x.item, .int .i64 x.qty, .int .i64 x.level, .int .i64 x.undos] 48)).grown hgrow (by simp; omega) (fun j hj => (hown1.lt j hj).1))
    have HR2 : Hid (w2.ownsRow (w.heap.size + 1) 48 8 v' ((l.take (k + 1)).filter (ofDev dev)).length (opCells ((l.take (k + 1)).filter (ofDev dev)))) := by
      show World.ownsRow _ _ _ _ _ _ _
      rw [HE.out, opCells_snoc, List.length_append]
      exact hown2
    clear hown2 hgrow hown1 HR1 d0 d1 d2 d3 d4 d5 d6 d7
    go_wp2
    go_roundw
    case rel => exact ⟨k + 1, _, by omega, rfl, by go_num, .inl HCb.out, HR2, HB2⟩
    case measure => simp [intOf]; omega
end Go.Proofs.Ytcebolkooohjhaa
