/- The operations of a device, of a cart: the walks of impl.placeOf, impl.Named and spec.Named. -/
import Derived.Test.YtmceofdknphgkaaGa19
import Derived.Test.YtmceofdknphgkaaGrpCloneW
import Derived.Test.YtmceofdknphgkaaGa16
import Derived.Test.YtmceofdknphgkaaGrpOpLawsW
import Derived.Test.YtmceofdknphgkaaGrpRow
import Derived.Deep.Cut
namespace Go.Proofs.Ytmceofdknphgkaa
open Go.RowKit

/-- What Named answers. -/
def ofDev (dev : Int) (o : OpV) : Bool := decide (o.dev = dev)
def namedL (xs : List Int) (l : List OpV) (dev : Int) : List OpV := if cartB xs l = true then l.filter (ofDev dev) else []
theorem named_no {xs : List Int} {l : List OpV} {dev : Int} (h : cartB xs l = false) : namedL xs l dev = [] := by unfold namedL; rw [h]; rfl
theorem named_yes {xs : List Int} {l : List OpV} {dev : Int} (h : cartB xs l = true) : namedL xs l dev = l.filter (ofDev dev) := by unfold namedL; rw [if_pos h]
theorem named_len (xs : List Int) (l : List OpV) (dev : Int) : (namedL xs l dev).length ≤ l.length := by
  unfold namedL
  split
  · exact List.length_filter_le _ _
  · exact Nat.zero_le _
def segOf (xs : List Int) (l : List OpV) (d : Nat) : List OpV := (l.drop (stOf xs d)).take (xs.getD d 0).toNat
theorem seg_dev {xs : List Int} {l : List OpV} {d : Nat} (h : devB xs l d = true) : ∀ o ∈ segOf xs l d, o.ok = true ∧ o.dev = (d : Int) := by
  unfold devB at h
  rw [Bool.and_eq_true] at h
  have hr := h.2
  unfold runB at hr
  rw [List.all_eq_true] at hr
  intro o ho
  obtain ⟨i, hi, e⟩ := List.mem_iff_getElem.1 ho
  have hic : i < (xs.getD d 0).toNat := by unfold segOf at hi; rw [List.length_take] at hi; omega
  have hf := hr i (by simpa using hic)
  have ea : atOp l (stOf xs d + i) = o := by
    rw [← at_cut (st := stOf xs d) hic]
    unfold atOp
    rw [List.getD_eq_getElem?_getD, ← e]
    show ((segOf xs l d)[i]?).getD OpV.zero = _
    rw [List.getElem?_eq_getElem hi]
    rfl
  unfold fitB at hf
  rw [ea] at hf
  simp only [Bool.and_eq_true, decide_eq_true_eq] at hf
  exact ⟨hf.1, hf.2.1⟩
theorem drop_seg {xs : List Int} {l : List OpV} (d : Nat) : l.drop (stOf xs d) = segOf xs l d ++ l.drop (stOf xs (d + 1)) := by
  have e : l.drop (stOf xs (d + 1)) = (l.drop (stOf xs d)).drop (xs.getD d 0).toNat := by rw [List.drop_drop]; rfl
  rw [e]
  exact (List.take_append_drop _ _).symm
theorem list_segs {xs : List Int} {l : List OpV} (h : stOf xs 4 = l.length) : l = segOf xs l 0 ++ (segOf xs l 1 ++ (segOf xs l 2 ++ segOf xs l 3)) := by
  have h0 := drop_seg (xs := xs) (l := l) 0
  have h1 := drop_seg (xs := xs) (l := l) 1
  have h2 := drop_seg (xs := xs) (l := l) 2
  have h3 := drop_seg (xs := xs) (l := l) 3
  have e4 : l.drop (stOf xs 4) = [] := by rw [h]; exact List.drop_length
  rw [e4, List.append_nil] at h3
  rw [h3] at h2
  rw [h2] at h1
  rw [h1] at h0
  have z : l.drop (stOf xs 0) = l := List.drop_zero
  rw [z] at h0
  exact h0
theorem filter_seg {xs : List Int} {l : List OpV} {d : Nat} (h : devB xs l d = true) (dev : Int) : (segOf xs l d).filter (ofDev dev) = if dev = (d : Int) then segOf xs l d else [] := by
  by_cases e : dev = (d : Int)
  · rw [if_pos e]
    refine List.filter_eq_self.2 fun o ho => ?_
    unfold ofDev
    exact decide_eq_true ((seg_dev h o ho).2.trans e.symm)
  · rw [if_neg e]
    refine List.filter_eq_nil_iff.2 fun o ho => ?_
    unfold ofDev
    rw [decide_eq_true_eq]
    intro e2
    exact e (e2.symm.trans (seg_dev h o ho).2)
theorem named_seg {xs : List Int} {l : List OpV} (h : cartB xs l = true) {d : Nat} (hd : d < 4) : l.filter (ofDev (d : Int)) = segOf xs l d := by
  obtain ⟨_, h1, h2⟩ := cart_true h
  have e := congrArg (List.filter (ofDev (d : Int))) (list_segs (xs := xs) h2)
  rw [List.filter_append, List.filter_append, List.filter_append, filter_seg (h1 0 (by omega)), filter_seg (h1 1 (by omega)), filter_seg (h1 2 (by omega)), filter_seg (h1 3 (by omega))] at e
  rw [e]
  obtain rfl | rfl | rfl | rfl : d = 0 ∨ d = 1 ∨ d = 2 ∨ d = 3 := by omega
  · simp
  · simp
  · simp
  · simp
theorem named_none {xs : List Int} {l : List OpV} {dev : Int} (h : inB dev 0 3 = false) : namedL xs l dev = [] := by
  by_cases hc : cartB xs l = true
  · rw [named_yes hc]
    refine List.filter_eq_nil_iff.2 fun o ho => ?_
    obtain ⟨_, h1, h2⟩ := cart_true hc
    rw [list_segs (xs := xs) h2] at ho
    have hn : ¬ (0 ≤ dev ∧ dev ≤ 3) := fun hh => by rw [inB_iff.2 hh] at h; cases h
    unfold ofDev
    rw [decide_eq_true_eq]
    intro e
    have : ∃ d : Nat, d < 4 ∧ o.dev = (d : Int) := by
      rcases List.mem_append.1 ho with h | h
      · exact ⟨0, by omega, (seg_dev (h1 0 (by omega)) o h).2⟩
      rcases List.mem_append.1 h with h | h
      · exact ⟨1, by omega, (seg_dev (h1 1 (by omega)) o h).2⟩
      rcases List.mem_append.1 h with h | h
      · exact ⟨2, by omega, (seg_dev (h1 2 (by omega)) o h).2⟩
      · exact ⟨3, by omega, (seg_dev (h1 3 (by omega)) o h).2⟩
    obtain ⟨d, hd, e2⟩ := this
    omega
  · exact named_no (by simpa using hc)
theorem deviceOkN (dev : Int) (w : World) : Calls Try.prog 118 #[.int .i64 dev] w fun e w' => e = .returned (.bool (inB dev 0 3)) ∧ w = w' := by
  go_enter Try.func118, Try.ntmps118
  go_wp2_with fail
  refine (inRange _ _ _ _).mono ?_
  rintro e w' ⟨rfl, rfl⟩
  go_wp2
  go_ret
  exact ⟨rfl, rfl⟩

set_option maxRecDepth 100000 in
set_option maxHeartbeats 5000000 in
theorem placeOf1 (w : World) (B : Nat) (av ao : Option Addr) (cv no co : Nat) (xs : List Int) (hx : Ints w B av 4 xs) (hB : B ≤ w.heap.size) (hcv : 4 ≤ cv) (hv : vecOk xs = true) (d : Nat) (hd : d < 4) : Calls Try.prog 120 #[.agg #[.slice av 4 cv, .slice ao no co], .int .i64 (d : Int), .int .i64 1] w fun e w' => e = .returned (.int .i64 (stOf xs d : Int)) ∧ Below w.heap.size w w' := by
  have hb0 : Below w.heap.size w (w.alloc (.cells #[.slice av 4 cv, .slice ao no co] 27)) := (Below.refl _ w).alloc (Nat.le_refl _) _
  have HV := Lib.hid (hx.below hb0 hB)
  have HB := Lib.hid hb0
  have HX := Lib.hid (boxAt (Below.refl _ (w.alloc (.cells #[.slice av 4 cv, .slice ao no co] 27))))
  have HAt := Lib.hid (fun d (hd : d < 4) => vec_at hv hd)
  have HLe := Lib.hid (fun k (hk : k ≤ 4) => stOf_le hv k hk)
  have hdi : (d : Int) ≤ (cv : Int) := by omega
  clear hx hb0 hv
  go_enter Try.func120, Try.ntmps120
  go_wp2_with fail
  generalize w.alloc (.cells #[.slice av 4 cv, .slice ao no co] 27) = w0 at HV HB HX ⊢
  obtain ⟨c0, c1⟩ := pair_cells HX.out
  go_wp2
  go_loop [7, 17] (fun q i => ∃ k m : Nat, k ≤ d ∧ i = .int .i64 (k : Int) ∧ q = .int .i64 (m : Int) ∧ m ≤ 160 ∧ Hid (m = stOf xs k)) (fun _ i => d - (intOf i).toNat)
  case atStart => exact ⟨0, 0, by omega, rfl, rfl, by omega, rfl⟩
  case round =>
    obtain ⟨k, m, hk, rfl, rfl, hm, HM⟩ := hrel
    by_cases hlt : k < d
    · obtain ⟨bv, ov, rfl, hbv, hcv'⟩ := HV.out.2 k (by omega)
      obtain ⟨g1, g2, g3⟩ := HAt.out k (by omega)
      have hle := HLe.out (k + 1) (by omega)
      obtain ⟨c, hcx⟩ := Int.eq_ofNat_of_zero_le g1
      have HSt : Hid (m + c = stOf xs (k + 1)) := by show _ = stOf xs k + (xs.getD k 0).toNat; rw [hcx, HM.out]; rfl
      have hmc : m + c ≤ 160 := by rw [HSt.out]; omega
      rw [hcx] at hcv'
      clear hcx g1 g2 g3 hle
      go_wp2
      go_round
      case rel => exact ⟨k + 1, m + c, by omega, by go_num, by go_num, hmc, HSt⟩
      case measure => simp [intOf]; omega
    · obtain rfl : k = d := by omega
      go_wp2
      go_ret
      exact ⟨by rw [HM.out]; rfl, HB.out⟩
end Go.Proofs.Ytmceofdknphgkaa
