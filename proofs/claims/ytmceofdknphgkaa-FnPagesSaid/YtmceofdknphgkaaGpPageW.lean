/- The walks of spec.Page and impl.Page. -/
import Derived.Test.YtmceofdknphgkaaGpHistI
import Derived.Test.YtmceofdknphgkaaGpHistC
import Derived.Lib.MinMax
import Derived.Deep.Cut
import Derived.Test.YtmceofdknphgkaaGpS
namespace Go.Proofs.Ytmceofdknphgkaa
open Go.RowKit

def pAt (m : Nat) (from_ : Int) : Nat := min m from_.toNat
def pEnd (m : Nat) (from_ n : Int) : Nat := min m (pAt m from_ + min n.toNat 1000)
def cutL (L : List OpV) (from_ n : Int) : List OpV := (L.drop (pAt L.length from_)).take (pEnd L.length from_ n - pAt L.length from_)
def pageL (xs : List Int) (l : List OpV) (from_ n : Int) : List OpV := cutL (histL xs l) from_ n
theorem cut_len (L : List OpV) (from_ n : Int) : (cutL L from_ n).length = pEnd L.length from_ n - pAt L.length from_ := by
  unfold cutL
  rw [List.length_take, List.length_drop]
  unfold pEnd
  omega
theorem page_len (xs : List Int) (l : List OpV) (from_ n : Int) : (pageL xs l from_ n).length ≤ l.length := by
  have := hist_len xs l
  unfold pageL
  rw [cut_len]
  unfold pEnd
  omega
theorem ret_slice {a : Option Addr} {n n' c : Nat} (h : n = n') : Ending.returned (.slice a n c) = .returned (.slice a n' c) := by rw [h]
theorem OwnOps.cut {w : World} {lo hi : Nat} {a : Option Addr} {n cap : Nat} {l : List OpV} (h : OwnOps w lo hi a n l) (hcap : n ≤ cap) {s m : Nat} (hs : s + m ≤ n) : OwnOps w lo hi (if cap = s then a else Option.map (fun x => x.add (s * 8)) a) m ((l.drop s).take m) := by
  have hl := h.1
  refine ⟨by rw [List.length_take, List.length_drop]; omega, fun h1 => ?_⟩
  obtain ⟨g, off, cs, e, h2, h3, hg, hsz, hc⟩ := h.2 (by omega)
  have e0 : (if cap = s then a else Option.map (fun x => x.add (s * 8)) a) = some ⟨g, off + s * 8, none⟩ := by
    rw [if_neg (by omega), e]
    show some (Addr.add _ _) = _
    rw [add_at]
  refine ⟨g, off + s * 8, cs, e0, h2, h3, hg, by omega, fun i hi => ?_⟩
  have e1 : ((l.drop s).take m).getD i OpV.zero = l.getD (s + i) OpV.zero := at_cut hi
  rw [e1]
  have := hc (s + i) (by omega)
  have e2 : off + s * 8 + i * 8 = off + (s + i) * 8 := by omega
  rw [e2]
  exact this

set_option linter.unusedSimpArgs false in
set_option maxRecDepth 100000 in
set_option maxHeartbeats 4000000 in
theorem specPage (w : World) (B : Nat) (av ao : Option Addr) (nv cv no co : Nat) (xs : List Int) (l : List OpV) (from_ n : Int) (hx : Ints w B av nv xs) (h : Ops w B ao no l) (hB : B ≤ w.heap.size) (hv : nv ≤ 1048576) (hn : no ≤ 1048576) (hm : ∀ i, i < no → (atOp l i).item.size ≤ 1048576) :
    Calls Try.prog 35 #[.agg #[.slice av nv cv, .slice ao no co], .int .i64 from_, .int .i64 n] w (OpsPost (pageL xs l from_ n) w) := by
  obtain ⟨i0, hi, hz0, hz1, hz2⟩ := info_parts Try.infoOp
  have hb0 : Below w.heap.size w (w.alloc (.cells #[.slice av nv cv, .slice ao no co] 27)) := (Below.refl _ w).alloc (Nat.le_refl _) _
  have HV := Lib.hid (hx.below hb0 hB)
  have HO := Lib.hid (h.below hb0 hB)
  have HB := Lib.hid hb0
  have HX := Lib.hid (boxAt (Below.refl _ (w.alloc (.cells #[.slice av nv cv, .slice ao no co] 27))))
  have HM := Lib.hid hm
  have hLn : (histL xs l).length ≤ 1048576 := Nat.le_trans (hist_len xs l) (by rw [h.1]; omega)
  have hsz : w.heap.size + 1 ≤ (w.alloc (.cells #[.slice av nv cv, .slice ao no co] 27)).heap.size := by show _ ≤ (w.heap.push _).size; simp
  clear hx h hb0 hm
  go_enter Try.func35, Try.ntmps35
  go_wp2_with fail
  generalize w.alloc (.cells #[.slice av nv cv, .slice ao no co] 27) = w0 at HV HO HB HX hsz ⊢
  refine (specHistoryC w0 B av ao nv cv no co xs l HV.out HO.out (by omega) hv hn HM.out).mono ?_
  rintro e w1 ⟨g, c, rfl, hcc, hown, hb1⟩
  have HB1 := Lib.hid (HB.out.trans (hb1.mono (by omega)))
  have HOw := Lib.hid hown
  have hs1 := hb1.size
  clear hown hb1 HV HO HX HM
  have HPg : Hid (pageL xs l from_ n = ((histL xs l).drop (pAt (histL xs l).length from_)).take (pEnd (histL xs l).length from_ n - pAt (histL xs l).length from_)) := rfl
  have HPl := Lib.hid (cut_len (histL xs l) from_ n)
  have HPe : Hid (pageL xs l from_ n = cutL (histL xs l) from_ n) := rfl
  have hAt : pAt (histL xs l).length from_ = min (histL xs l).length from_.toNat := rfl
  have hEn : pEnd (histL xs l).length from_ n = min (histL xs l).length (pAt (histL xs l).length from_ + min n.toNat 1000) := rfl
  generalize histL xs l = L at hLn HPg HPl HPe hAt hEn hcc HOw ⊢
  rw [HPe.out] at HPg
  generalize cutL L from_ n = M at HPg HPl HPe
  generalize pAt L.length from_ = at_ at HPg HPl hAt hEn
  generalize pEnd L.length from_ n = en at HPg HPl hEn
  have e1 : min (L.length : Int) (max 0 from_) = (at_ : Int) := by omega
  have e2 : min (L.length : Int) ((at_ : Int) + max 0 (min n 1000)) = (en : Int) := by omega
  have iw : IntKind.i64.wrap ((at_ : Int) + max 0 (min n 1000)) = (at_ : Int) + max 0 (min n 1000) := IntWalk.i64_in _ (by omega)
  have k0 : (0 : Int) ≤ (at_ : Int) := by omega
  have k1 : (at_ : Int) ≤ (en : Int) := by omega
  have k2 : (en : Int) ≤ (c : Int) := by omega
  clear hAt hEn
  go_upto_region 4 with fail
  have hown0 : (w1.alloc (.cells #[] 34)).ownsRow w1.heap.size 34 8 (.slice (some ⟨w1.heap.size, 0, none⟩) 0 0) 0 [] := World.ownsRow_made w1 #[] 0 (Nat.le_refl _) (by unfold maxLen; omega) rfl
  have hbA : Below w1.heap.size w1 (w1.alloc (.cells #[] 34)) := (Below.refl _ _).alloc (Nat.le_refl _) _
  have HCut := Lib.hid (HOw.out.cut hcc (s := at_) (m := en - at_) (by omega))
  rw [← HPg.out] at HCut
  by_cases hca : c = at_
  · obtain rfl : en = at_ := by omega
    have HM0 : Hid (M = []) := List.eq_nil_of_length_eq_zero (by rw [HPl.out]; omega)
    rw [HM0.out] at HPe
    clear HCut HPg HPl HM0
    subst hca
    go_wp2_with (at_builtin; refine wpList_append_own _ rfl _ _ 25 rfl w1.heap.size 34 i0 (.agg #[.int .i64 0, .int .i64 0, .int .i64 0, .int .i64 0, .string ⟨#[]⟩, .int .i64 0, .int .i64 0, .int .i64 0]) 8 72 Try.underlying25 hi hz0 hz1 hz2 rfl (by decide) _ _ _ rfl hown0 ⟨g, 0, none⟩ 0 _ [] rfl ?c0 ?c1 ?c2 ?c3 ?c4 ?c5 ?_)
    case c0 => rfl
    case c1 => intro j u hj; cases hj
    case c2 => intro u hu; cases hu
    case c3 => unfold maxLen; omega
    case c4 => omega
    case c5 => simp
    intro v' w2 hown2 hgrow _
    have hb2 := hbA.grown hgrow (by simp) (fun j hj => (hown0.lt j hj).1)
    have HR2 : Hid (w2.ownsRow w1.heap.size 34 8 v' 0 (opCells [])) := Lib.hid (by simpa [opCells] using hown2)
    obtain ⟨a', cap', rfl⟩ : ∃ a' cap', v' = .slice a' 0 cap' := by
      rcases HR2.out.2 with ⟨e, e2⟩ | ⟨g, c, cur, e, _⟩
      · exact ⟨none, 0, by rw [e, e2]⟩
      · exact ⟨_, _, e⟩
    have HO2 := Lib.hid ((own_of_cells (hi := w2.heap.size) HR2.out (Nat.le_refl _)).more (lo' := w.heap.size) (by omega) (Nat.le_refl _))
    have HB2 := Lib.hid (HB1.out.trans (hb2.mono HB1.out.size))
    clear hown2 hgrow hown0 hbA HR2 hb2
    go_wp2
    go_ret
    exact ⟨a', cap', by rw [HPe.out]; rfl, by rw [HPe.out]; exact HO2.out, HB2.out⟩
  · have hadd : (⟨g, 0, none⟩ : Addr).add (at_ * 8) = ⟨g, at_ * 8, none⟩ := by rw [add_at, Nat.zero_add]
    have htn : (en : Int).toNat - at_ = en - at_ := by omega
    rw [if_neg hca] at HCut
    have HC2 : Hid (OwnOps w1 w0.heap.size w1.heap.size (some ⟨g, at_ * 8, none⟩) (en - at_) M) := by
      have := HCut.out
      rw [Option.map_some, hadd] at this
      exact this
    clear HCut
    go_wp2_with (at_builtin; refine wpList_append_own _ rfl _ _ 25 rfl w1.heap.size 34 i0 (.agg #[.int .i64 0, .int .i64 0, .int .i64 0, .int .i64 0, .string ⟨#[]⟩, .int .i64 0, .int .i64 0, .int .i64 0]) 8 72 Try.underlying25 hi hz0 hz1 hz2 rfl (by decide) _ _ _ rfl hown0 ⟨g, at_ * 8, none⟩ (en - at_) _ (opCells M) rfl ?c0 ?c1 ?c2 ?c3 ?c4 ?c5 ?_)
    case c0 => rw [opCells_len, HPl.out]
    case c1 => exact cells_of_ops (HC2.out.ops.below hbA (Nat.le_refl _))
    case c2 => exact opCells_one M
    case c3 => unfold maxLen; omega
    case c4 => omega
    case c5 => simp
    intro v' w2 hown2 hgrow _
    have hb2 := hbA.grown hgrow (by simp) (fun j hj => (hown0.lt j hj).1)
    have HR2 : Hid (w2.ownsRow w1.heap.size 34 8 v' (en - at_) (opCells M)) := Lib.hid (by simpa using hown2)
    obtain ⟨a', cap', rfl⟩ : ∃ a' cap', v' = .slice a' (en - at_) cap' := by
      rcases HR2.out.2 with ⟨e, e2⟩ | ⟨g, c, cur, e, _⟩
      · exact ⟨none, 0, by rw [e, e2]⟩
      · exact ⟨_, _, e⟩
    have HO2 := Lib.hid ((own_of_cells (hi := w2.heap.size) HR2.out (Nat.le_refl _)).more (lo' := w.heap.size) (by omega) (Nat.le_refl _))
    have HB2 := Lib.hid (HB1.out.trans (hb2.mono HB1.out.size))
    clear hown2 hgrow hown0 hbA HR2 hb2
    go_wp2
    go_ret
    exact ⟨a', cap', by rw [HPe.out, HPl.out]; rfl, by rw [HPe.out, HPl.out]; exact HO2.out, HB2.out⟩

set_option linter.unusedSimpArgs false in
set_option maxRecDepth 100000 in
set_option maxHeartbeats 4000000 in
theorem implPage (w : World) (B : Nat) (av ao : Option Addr) (nv cv no co : Nat) (xs : List Int) (l : List OpV) (from_ n : Int) (hx : Ints w B av nv xs) (h : Ops w B ao no l) (hB : B ≤ w.heap.size) (hv : nv ≤ 1048576) (hvc : nv ≤ cv) (hc : no ≤ co) (hc2 : Fits no co) (hnil : ao = none → co = 0) (hm : ∀ i, i < no → (atOp l i).item.size ≤ 1048576) :
    Calls Try.prog 34 #[.agg #[.slice av nv cv, .slice ao no co], .int .i64 from_, .int .i64 n] w (OpsPost (pageL xs l from_ n) w) := by
  have hn1048 : no ≤ 1048576 := hc2.1
  obtain ⟨i0, hi, hz0, hz1, hz2⟩ := info_parts Try.infoOp
  have hb0 : Below w.heap.size w (w.alloc (.cells #[.slice av nv cv, .slice ao no co] 27)) := (Below.refl _ w).alloc (Nat.le_refl _) _
  have HV := Lib.hid (hx.below hb0 hB)
  have HO := Lib.hid (h.below hb0 hB)
  have HB := Lib.hid hb0
  have HX := Lib.hid (boxAt (Below.refl _ (w.alloc (.cells #[.slice av nv cv, .slice ao no co] 27))))
  have HM := Lib.hid hm
  have hLn : (histL xs l).length ≤ 1048576 := Nat.le_trans (hist_len xs l) (by rw [h.1]; omega)
  have hsz : w.heap.size + 1 ≤ (w.alloc (.cells #[.slice av nv cv, .slice ao no co] 27)).heap.size := by show _ ≤ (w.heap.push _).size; simp
  clear hx h hb0 hm
  have hL0 : (histL xs l).length = (histL xs l).length := rfl
  have HPg : Hid (pageL xs l from_ n = ((histL xs l).drop (pAt (histL xs l).length from_)).take (pEnd (histL xs l).length from_ n - pAt (histL xs l).length from_)) := rfl
  have HPl := Lib.hid (cut_len (histL xs l) from_ n)
  have HPe : Hid (pageL xs l from_ n = cutL (histL xs l) from_ n) := rfl
  have hAt : pAt (histL xs l).length from_ = min (histL xs l).length from_.toNat := rfl
  have hEn : pEnd (histL xs l).length from_ n = min (histL xs l).length (pAt (histL xs l).length from_ + min n.toNat 1000) := rfl
  obtain ⟨L, hLe⟩ : ∃ L, histL xs l = L := ⟨_, rfl⟩
  have HLe := Lib.hid hLe
  rw [hLe] at hLn HPg HPl HPe hAt hEn
  clear hLe
  rw [HPe.out] at HPg
  generalize cutL L from_ n = M at HPg HPl HPe
  generalize pAt L.length from_ = at_ at HPg HPl hAt hEn
  generalize pEnd L.length from_ n = en at HPg HPl hEn
  by_cases hneg : n < 0
  · have HM0 : Hid (M = []) := List.eq_nil_of_length_eq_zero (by rw [HPl.out]; omega)
    clear HPg HPl hAt hEn hL0 hLn
    go_enter Try.func34, Try.ntmps34
    go_wp2
    go_ret
    exact ⟨none, 0, by rw [HPe.out, HM0.out]; rfl, by rw [HPe.out, HM0.out]; exact own_none _ _ _ _, HB.out⟩
  have hneg' : (0 : Int) ≤ n := by omega
  go_enter Try.func34, Try.ntmps34
  go_wp2_with fail
  generalize w.alloc (.cells #[.slice av nv cv, .slice ao no co] 27) = w0 at HV HO HB HX hsz ⊢
  refine (implHistoryC w0 B av ao nv cv no co xs l HV.out HO.out (by omega) hv hvc hc hc2 hnil HM.out).mono ?_
  rintro e w1 ⟨a, c, rfl, hcc, hown, hb1⟩
  have HB1 := Lib.hid (HB.out.trans (hb1.mono (by omega)))
  have hs1 := hb1.size
  rw [HLe.out] at hcc hown ⊢
  have HOw := Lib.hid hown
  clear hown hb1 HV HO HX HM
  have e1 : min (max from_ 0) (L.length : Int) = (at_ : Int) := by omega
  have k1 : (at_ : Int) ≤ (L.length : Int) := by omega
  have k2 : (at_ : Int) ≤ (c : Int) := by omega
  have e2 : ((L.length - at_ : Nat) : Int) = (L.length : Int) - (at_ : Int) := by omega
  have HCut := Lib.hid (HOw.out.cut hcc (s := at_) (m := en - at_) (by omega))
  rw [← HPg.out] at HCut
  clear hAt hL0
  go_upto_region 5 with fail
  have e3 : min (min n 1000) ((L.length : Int) - (at_ : Int)) = ((en - at_ : Nat) : Int) := by omega
  have e4 : (L.length : Int).toNat - at_ = L.length - at_ := by omega
  have k3 : (0 : Int) ≤ ((en - at_ : Nat) : Int) := by omega
  have k4 : ((en - at_ : Nat) : Int) ≤ ((c - at_ : Nat) : Int) := by omega
  have k5 : en - at_ ≤ c - at_ := by omega
  have HK5 := Lib.hid k5
  generalize hm : en - at_ = m at HPg HPl e3 k3 k4 k5 HK5 HCut
  obtain ⟨xa, hxa⟩ : ∃ xa, (if c = at_ then a else Option.map (fun x => x.add (at_ * 8)) a) = xa := ⟨_, rfl⟩
  rw [hxa] at HCut
  clear hm HPg HOw hcc hLn hEn
  have HE3 : Hid (min (if (1000 : Int) < n then 1000 else n) ((L.length : Int) - (at_ : Int)) = (m : Int)) := by
    show _ = _
    rw [← e3]
    split <;> omega
  go_wp2
  all_goals
    go_ret
    have hE := HE3.out
    refine ⟨xa, c - at_, ?_, by rw [HPe.out, HPl.out]; exact HCut.out.more (by omega) (Nat.le_refl _), HB1.out⟩
    rw [HPe.out, HPl.out]
    refine ret_slice ?_
    first
    | omega
    | (split at * <;> omega)
end Go.Proofs.Ytmceofdknphgkaa
