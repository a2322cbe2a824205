/- Walks and mathematics that several claims share, part 31. -/
import Derived.Test.YtgagchlcafdiaaaGreatGb1
import Derived.WalkKit
import Derived.WalkLawsBesides
import Derived.Lib.Hide
import Derived.Deep.QuietTactic
import Derived.BigQuiet
import Derived.WalkSpells
import Derived.IntWalk
import Derived.Below
import Derived.Handy
import Derived.Lib.MinMax
import Derived.Deep.RegionHeld3
import Derived.Test.YtgagchlcafdiaaaGreatGbA
namespace Go.Proofs.YtgagchlcafdiaaaGreat
set_option maxRecDepth 100000
open Go.RowKit
set_option linter.unusedVariables false
set_option linter.unusedSimpArgs false
set_option linter.unusedVariables false

def offB (s : ByteArray) (b f : Int) : Bool := itemB s && (inB b 1 99 && inB f 1 99)
theorem off_item {s : ByteArray} {b f : Int} (h : itemB s = false) : offB s b f = false := by unfold offB; rw [h]; rfl
theorem off_buy {s : ByteArray} {b f : Int} (h : inB b 1 99 = false) : offB s b f = false := by unfold offB; rw [h]; simp
theorem off_free {s : ByteArray} {b f : Int} (h : inB f 1 99 = false) : offB s b f = false := by unfold offB; rw [h]; simp
theorem off_yes {s : ByteArray} {b f : Int} (h : itemB s = true) (h1 : inB b 1 99 = true) (h2 : inB f 1 99 = true) : offB s b f = true := by unfold offB; rw [h, h1, h2]; rfl
theorem off_parts {s : ByteArray} {b f : Int} (h : offB s b f = true) : (1 ≤ b ∧ b ≤ 99) ∧ (1 ≤ f ∧ f ≤ 99) := by
 unfold offB at h
 simp only [Bool.and_eq_true] at h
 exact ⟨inB_iff.1 h.2.1, inB_iff.1 h.2.2⟩
theorem boxAtF {w w1 : World} {o : Obj} (hb : Below (w.alloc o).heap.size (w.alloc o) w1) : w1.heap[w.heap.size]? = some o := (hb.block _ (by simp)).trans (heap_alloc_new _ _)
theorem box_grown {w w' : World} {o : Obj} (h : Below (w.alloc o).heap.size (w.alloc o) w') : Below w.heap.size w w' := ((Below.refl _ w).alloc (Nat.le_refl _) _).trans (h.mono (by show w.heap.size ≤ (w.heap.push _).size; simp))

theorem specOffer (s : ByteArray) (b f : Int) (w : World) (hs : s.size ≤ 1048576) : Calls Tryz.prog 50 #[.agg #[.string s, .int .i64 b, .int .i64 f]] w fun e w' => e = .returned (.bool (offB s b f)) ∧ Below w.heap.size w w' := by
 rcases hi : itemB s with _ | _
 ·have HV := Lib.hid (off_item (b := b) (f := f) hi)
  have HI := Lib.hid hi
  clear hi
  go_enter Tryz.func50, Tryz.ntmps50
  go_wp2_with fail
  refine (l3Item s hs _).mono ?_
  rintro e w1 ⟨rfl, rfl⟩
  rw [HI.out]
  go_wp2
  go_ret
  exact ⟨by rw [HV.out]; rfl, bl⟩
 rcases h1 : inB b 1 99 with _ | _
 ·have HV := Lib.hid (off_buy (s := s) (f := f) h1)
  have HI := Lib.hid hi
  have H1 := Lib.hid h1
  clear hi h1
  go_enter Tryz.func50, Tryz.ntmps50
  go_wp2_with fail
  refine (l3Item s hs _).mono ?_
  rintro e w1 ⟨rfl, rfl⟩
  rw [HI.out]
  go_wp2_with fail
  refine (l1In _ _ _ _).mono ?_
  rintro e w1 ⟨rfl, rfl⟩
  rw [H1.out]
  go_wp2
  go_ret
  exact ⟨by rw [HV.out]; rfl, bl⟩
 rcases h2 : inB f 1 99 with _ | _
 ·have HV := Lib.hid (off_free (s := s) (b := b) h2)
  have HI := Lib.hid hi
  have H1 := Lib.hid h1
  have H2 := Lib.hid h2
  clear hi h1 h2
  go_enter Tryz.func50, Tryz.ntmps50
  go_wp2_with fail
  refine (l3Item s hs _).mono ?_
  rintro e w1 ⟨rfl, rfl⟩
  rw [HI.out]
  go_wp2_with fail
  refine (l1In _ _ _ _).mono ?_
  rintro e w1 ⟨rfl, rfl⟩
  rw [H1.out]
  go_wp2_with fail
  refine (l1In _ _ _ _).mono ?_
  rintro e w1 ⟨rfl, rfl⟩
  rw [H2.out]
  go_wp2
  go_ret
  exact ⟨by rw [HV.out]; rfl, bl⟩
 ·have HV := Lib.hid (off_yes hi h1 h2)
  have HI := Lib.hid hi
  have H1 := Lib.hid h1
  have H2 := Lib.hid h2
  clear hi h1 h2
  go_enter Tryz.func50, Tryz.ntmps50
  go_wp2_with fail
  refine (l3Item s hs _).mono ?_
  rintro e w1 ⟨rfl, rfl⟩
  rw [HI.out]
  go_wp2_with fail
  refine (l1In _ _ _ _).mono ?_
  rintro e w1 ⟨rfl, rfl⟩
  rw [H1.out]
  go_wp2_with fail
  refine (l1In _ _ _ _).mono ?_
  rintro e w1 ⟨rfl, rfl⟩
  rw [H2.out]
  go_wp2
  go_ret
  exact ⟨by rw [HV.out]; rfl, bl⟩
theorem implOffer (s : ByteArray) (b f : Int) (w : World) : Calls Tryz.prog 46 #[.agg #[.string s, .int .i64 b, .int .i64 f]] w fun e w' => e = .returned (.bool (offB s b f)) ∧ Below w.heap.size w w' := by
 rcases hi : itemB s with _ | _
 ·have HV := Lib.hid (off_item (b := b) (f := f) hi)
  have HI := Lib.hid hi
  clear hi
  go_enter Tryz.func46, Tryz.ntmps46
  go_wp2_with fail
  refine (implItem s _).mono ?_
  rintro e w1 ⟨rfl, rfl⟩
  rw [HI.out]
  go_wp2
  go_ret
  exact ⟨by rw [HV.out]; rfl, bl⟩
 rcases h1 : inB b 1 99 with _ | _
 ·have HV := Lib.hid (off_buy (s := s) (f := f) h1)
  have HI := Lib.hid hi
  have H1 := Lib.hid h1
  clear hi h1
  go_enter Tryz.func46, Tryz.ntmps46
  go_wp2_with fail
  refine (implItem s _).mono ?_
  rintro e w1 ⟨rfl, rfl⟩
  rw [HI.out]
  go_wp2_with fail
  refine (inRange _ _ _ _).mono ?_
  rintro e w1 ⟨rfl, rfl⟩
  rw [H1.out]
  go_wp2
  go_ret
  exact ⟨by rw [HV.out]; rfl, bl⟩
 rcases h2 : inB f 1 99 with _ | _
 ·have HV := Lib.hid (off_free (s := s) (b := b) h2)
  have HI := Lib.hid hi
  have H1 := Lib.hid h1
  have H2 := Lib.hid h2
  clear hi h1 h2
  go_enter Tryz.func46, Tryz.ntmps46
  go_wp2_with fail
  refine (implItem s _).mono ?_
  rintro e w1 ⟨rfl, rfl⟩
  rw [HI.out]
  go_wp2_with fail
  refine (inRange _ _ _ _).mono ?_
  rintro e w1 ⟨rfl, rfl⟩
  rw [H1.out]
  go_wp2_with fail
  refine (inRange _ _ _ _).mono ?_
  rintro e w1 ⟨rfl, rfl⟩
  rw [H2.out]
  go_wp2
  go_ret
  exact ⟨by rw [HV.out]; rfl, bl⟩
 ·have HV := Lib.hid (off_yes hi h1 h2)
  have HI := Lib.hid hi
  have H1 := Lib.hid h1
  have H2 := Lib.hid h2
  clear hi h1 h2
  go_enter Tryz.func46, Tryz.ntmps46
  go_wp2_with fail
  refine (implItem s _).mono ?_
  rintro e w1 ⟨rfl, rfl⟩
  rw [HI.out]
  go_wp2_with fail
  refine (inRange _ _ _ _).mono ?_
  rintro e w1 ⟨rfl, rfl⟩
  rw [H1.out]
  go_wp2_with fail
  refine (inRange _ _ _ _).mono ?_
  rintro e w1 ⟨rfl, rfl⟩
  rw [H2.out]
  go_wp2
  go_ret
  exact ⟨by rw [HV.out]; rfl, bl⟩

/-- How many of q pieces are paid. -/
def paidZ (q b f : Int) : Int := q / (b + f) * b + min (q % (b + f)) b

theorem wr_off {x : Int} (h1 : -1000000 ≤ x) (h2 : x ≤ 1000000) : wrap64 x = x := by simp only [wrap64]; omega
theorem paid_bounds {q b f : Int} (hq : 0 ≤ q) (hb : 1 ≤ b) (hf : 1 ≤ f) : 0 ≤ q / (b + f) * b ∧ q / (b + f) * b + min (q % (b + f)) b ≤ q ∧ 0 ≤ min (q % (b + f)) b := by
 have h0 : 0 ≤ q / (b + f) := Int.ediv_nonneg hq (by omega)
 have h1 : 0 ≤ q % (b + f) := Int.emod_nonneg _ (by omega)
 have h2 : (b + f) * (q / (b + f)) + q % (b + f) = q := Int.mul_ediv_add_emod q (b + f)
 have h3 : 0 ≤ q / (b + f) * b := Int.mul_nonneg h0 (by omega)
 have h4 : 0 ≤ q / (b + f) * f := Int.mul_nonneg h0 (by omega)
 rw [Int.mul_comm, Int.mul_add] at h2
 omega
theorem paid_wrap {q b f : Int} (hq : 0 ≤ q) (hq2 : q ≤ 999) (hb : 1 ≤ b) (hb2 : b ≤ 99) (hf : 1 ≤ f) (hf2 : f ≤ 99) : wrap64 (wrap64 (q / (b + f) * b) + min (q % (b + f)) b) = paidZ q b f := by
 obtain ⟨h1, h2, h3⟩ := paid_bounds hq hb hf
 rw [wr_off (x := q / (b + f) * b) (by omega) (by omega), wr_off (by omega) (by omega)]
 rfl

theorem l12Paid (s : ByteArray) (q b f : Int) (w : World) (hq : 0 ≤ q) (hq2 : q ≤ 999) (hb : 1 ≤ b) (hb2 : b ≤ 99) (hf : 1 ≤ f) (hf2 : f ≤ 99) : Calls Tryz.prog 26 #[.int .i64 q, .agg #[.string s, .int .i64 b, .int .i64 f]] w fun e w' => e = .returned (.int .i64 (paidZ q b f)) ∧ Below w.heap.size w w' := by
 go_enter Tryz.func26, Tryz.ntmps26
 go_wp2
 go_quiet (fail)
 go_wp2
 go_ret
 exact ⟨by show Ending.returned (.int .i64 (wrap64 (wrap64 (q / (b + f) * b) + min (q % (b + f)) b))) = _; rw [paid_wrap hq hq2 hb hb2 hf hf2], ((Below.refl _ w).alloc (Nat.le_refl _) _).trans ⟨rfl, rfl, rfl, Nat.le_refl _, fun _ _ => rfl⟩⟩
def paidB (q : Int) (s : ByteArray) (b f : Int) : Int := if (offB s b f && inB q 0 999) = true then paidZ q b f else -1
theorem paid_off {q : Int} {s : ByteArray} {b f : Int} (h : offB s b f = false) : paidB q s b f = -1 := by unfold paidB; rw [h]; rfl
theorem paid_qty {q : Int} {s : ByteArray} {b f : Int} (h : inB q 0 999 = false) : paidB q s b f = -1 := by unfold paidB; rw [h, Bool.and_false]; rfl
theorem paid_yes {q : Int} {s : ByteArray} {b f : Int} (h : offB s b f = true) (h2 : inB q 0 999 = true) : paidB q s b f = paidZ q b f := by unfold paidB; rw [h, h2]; rfl
theorem implPaid (q : Int) (s : ByteArray) (b f : Int) (w : World) : Calls Tryz.prog 80 #[.int .i64 q, .agg #[.string s, .int .i64 b, .int .i64 f]] w fun e w' => e = .returned (.int .i64 (paidB q s b f)) ∧ Below w.heap.size w w' := by
 rcases ho : offB s b f with _ | _
 ·have HV := Lib.hid (paid_off (q := q) ho)
  have HO := Lib.hid ho
  clear ho
  go_enter Tryz.func80, Tryz.ntmps80
  go_wp2_with fail
  refine (implOffer s b f _).mono ?_
  rintro e w1 ⟨rfl, hb1⟩
  rw [HO.out]
  have hx := boxAtF hb1
  have HB1 := Lib.hid (box_grown hb1)
  clear hb1
  have c0 := cell_of_row _ _ 0 _ _ _ hx
  have c1 := cell_of_row _ _ 1 _ _ _ hx
  have c2 := cell_of_row _ _ 2 _ _ _ hx
  simp only [List.getElem?_toArray, List.getElem?_cons_zero, List.getElem?_cons_succ] at c0 c1 c2
  clear hx
  go_wp2
  go_ret
  exact ⟨by rw [HV.out]; rfl, HB1.out⟩
 rcases hq : inB q 0 999 with _ | _
 ·have HV := Lib.hid (paid_qty (s := s) (b := b) (f := f) hq)
  have HO := Lib.hid ho
  have HQ := Lib.hid hq
  clear ho hq
  go_enter Tryz.func80, Tryz.ntmps80
  go_wp2_with fail
  refine (implOffer s b f _).mono ?_
  rintro e w1 ⟨rfl, hb1⟩
  rw [HO.out]
  have hx := boxAtF hb1
  have HB1 := Lib.hid (box_grown hb1)
  clear hb1
  have c0 := cell_of_row _ _ 0 _ _ _ hx
  have c1 := cell_of_row _ _ 1 _ _ _ hx
  have c2 := cell_of_row _ _ 2 _ _ _ hx
  simp only [List.getElem?_toArray, List.getElem?_cons_zero, List.getElem?_cons_succ] at c0 c1 c2
  clear hx
  go_wp2_with fail
  refine (inRange _ _ _ _).mono ?_
  rintro e w2 ⟨rfl, rfl⟩
  rw [HQ.out]
  go_wp2
  go_ret
  exact ⟨by rw [HV.out]; rfl, HB1.out⟩
 ·have HV := Lib.hid (paid_yes ho hq)
  obtain ⟨⟨hb, hb2⟩, hf, hf2⟩ := off_parts ho
  obtain ⟨hq0, hq2⟩ := inB_iff.1 hq
  have HO := Lib.hid ho
  have HQ := Lib.hid hq
  clear ho hq
  go_enter Tryz.func80, Tryz.ntmps80
  go_wp2_with fail
  refine (implOffer s b f _).mono ?_
  rintro e w1 ⟨rfl, hb1⟩
  rw [HO.out]
  have hx := boxAtF hb1
  have HB1 := Lib.hid (box_grown hb1)
  clear hb1
  have c0 := cell_of_row _ _ 0 _ _ _ hx
  have c1 := cell_of_row _ _ 1 _ _ _ hx
  have c2 := cell_of_row _ _ 2 _ _ _ hx
  simp only [List.getElem?_toArray, List.getElem?_cons_zero, List.getElem?_cons_succ] at c0 c1 c2
  clear hx
  go_wp2_with fail
  refine (inRange _ _ _ _).mono ?_
  rintro e w2 ⟨rfl, rfl⟩
  rw [HQ.out]
  go_wp2
  go_quiet (fail)
  go_wp2
  go_ret
  exact ⟨by rw [HV.out]; show Ending.returned (.int .i64 (wrap64 (wrap64 (q / (b + f) * b) + min (q % (b + f)) b))) = _; rw [paid_wrap hq0 hq2 hb hb2 hf hf2], HB1.out.trans ⟨rfl, rfl, rfl, Nat.le_refl _, fun _ _ => rfl⟩⟩
end Go.Proofs.YtgagchlcafdiaaaGreat
