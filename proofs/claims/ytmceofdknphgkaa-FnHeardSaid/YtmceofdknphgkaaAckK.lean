/- Tables of rows: the walks of impl.Stable, spec.Heard and impl.Heard. -/
import Derived.Test.YtmceofdknphgkaaAckH
namespace Go.Proofs.Ytmceofdknphgkaa
open Go.RowKit
set_option linter.unusedVariables false
set_option linter.unusedSimpArgs false

theorem vec_list {xs : List Int} {w : World} {g : Nat} {x0 x1 x2 x3 : Int} (hx : xs = [x0, x1, x2, x3]) (h : w.heap[g]? = some (.cells (xs.map (Value.int .i64)).toArray 142 (0, 0))) : w.heap[g]? = some (.cells (arr4 x0 x1 x2 x3) 142 (0, 0)) := by
  rw [hx] at h
  exact h
theorem vec_back {xs : List Int} {w : World} {g : Nat} {x0 x1 x2 x3 : Int} (hx : xs = [x0, x1, x2, x3]) (h : w.heap[g]? = some (.cells (arr4 x0 x1 x2 x3) 142 (0, 0))) : w.heap[g]? = some (.cells (xs.map (Value.int .i64)).toArray 142 (0, 0)) := by
  rw [hx]
  exact h
theorem ptr_at {w : World} {P : Nat} {f : Nat → Nat} (h : w.heap[P]? = some (.cells #[.pointer (some ⟨f 0, 0, none⟩), .pointer (some ⟨f 1, 0, none⟩), .pointer (some ⟨f 2, 0, none⟩), .pointer (some ⟨f 3, 0, none⟩)] 136 (0, 0))) {k : Nat} (hk : k < 4) : w.cell? ⟨P, k, none⟩ = some (.pointer (some ⟨f k, 0, none⟩)) := by
  obtain ⟨⟨c0, c1, c2, c3⟩, _⟩ := quad h
  obtain rfl | rfl | rfl | rfl : k = 0 ∨ k = 1 ∨ k = 2 ∨ k = 3 := by omega
  · exact c0
  · exact c1
  · exact c2
  · exact c3
set_option maxRecDepth 100000 in
set_option maxHeartbeats 2000000 in
theorem implStable (w : World) (B : Nat) (a : Option Addr) (n cap : Nat) (l : List (List Int)) (h : IRows w B a n l) (hB : B ≤ w.heap.size) (hr : ∀ i, i < n → (rowOf l i).length ≤ 1048576) :
    Calls Try.prog 59 #[.agg #[.slice a n cap]] w (fun e w' => ∃ a cap, e = .returned (.slice a (stableL l).length cap) ∧ Own w' w.heap.size w'.heap.size a (stableL l).length (stableL l) ∧ Below w.heap.size w w') := by
  have hb0 : Below w.heap.size w (w.alloc (.cells #[.slice a n cap] 66)) := (Below.refl _ w).alloc (Nat.le_refl _) _
  have H := Lib.hid (h.below hb0 hB)
  have HB := Lib.hid hb0
  have HR := Lib.hid hr
  have hsz : w.heap.size ≤ (w.alloc (.cells #[.slice a n cap] 66)).heap.size := hb0.size
  clear h hb0 hr
  go_enter Try.func59, Try.ntmps59
  go_wp2_with fail
  generalize w.alloc (.cells #[.slice a n cap] 66) = w0 at H HB hsz ⊢
  refine (ackRowsOf w0 B a n cap l H.out (by omega) HR.out).mono ?_
  rintro e w1 ⟨hcase, hb1⟩
  have HB1 := Lib.hid (HB.out.trans (hb1.mono HB.out.size))
  have hs1 : w.heap.size ≤ w1.heap.size := HB1.out.size
  clear hb1
  rcases hcase with ⟨hok, f, rfl, hvec, hinc⟩ | ⟨hok, rfl⟩
  rotate_left
  · have HS := Lib.hid (stable_no hok)
    clear hok
    have HBa := Lib.hid (HB1.out.alloc hs1 (.cells #[.pointer none, .pointer none, .pointer none, .pointer none] 136))
    go_wp2
    go_ret
    exact ⟨none, 0, by rw [HS.out]; rfl, by rw [HS.out]; exact ⟨rfl, fun h => absurd h (by simp)⟩, HBa.out⟩
  have HK := Lib.hid hok
  clear hok
  have hba : Below w1.heap.size w1 (w1.alloc (.cells #[.pointer (some ⟨f 0, 0, none⟩), .pointer (some ⟨f 1, 0, none⟩), .pointer (some ⟨f 2, 0, none⟩), .pointer (some ⟨f 3, 0, none⟩)] 136)) := (Below.refl _ _).alloc (Nat.le_refl _) _
  have HP := Lib.hid (heap_alloc_new w1 (.cells #[.pointer (some ⟨f 0, 0, none⟩), .pointer (some ⟨f 1, 0, none⟩), .pointer (some ⟨f 2, 0, none⟩), .pointer (some ⟨f 3, 0, none⟩)] 136))
  have HV := Lib.hid (fun i hi => (⟨(hvec i hi).1, (hvec i hi).2.1, (hba.block _ (hvec i hi).2.1).trans (hvec i hi).2.2⟩ : w0.heap.size ≤ f i ∧ f i < w1.heap.size ∧ (w1.alloc (.cells #[.pointer (some ⟨f 0, 0, none⟩), .pointer (some ⟨f 1, 0, none⟩), .pointer (some ⟨f 2, 0, none⟩), .pointer (some ⟨f 3, 0, none⟩)] 136)).heap[f i]? = some (.cells ((rowOf l i).map (Value.int .i64)).toArray 142 (0, 0))))
  have HB2 := Lib.hid (HB1.out.trans (hba.mono hs1))
  have HInc := Lib.hid hinc
  clear hvec hinc hba
  go_upto_region 2 with fail
  generalize w1.alloc (.cells #[.pointer (some ⟨f 0, 0, none⟩), .pointer (some ⟨f 1, 0, none⟩), .pointer (some ⟨f 2, 0, none⟩), .pointer (some ⟨f 3, 0, none⟩)] 136) = w2 at HP HV HB2 ⊢
  have y0 := ptr_at (k := 0) HP.out (by omega)
  go_wp2
  clear y0
  go_loopw [19] (fun i wr => ∃ (k : Nat), k < 4 ∧ i = .int .i64 (k : Int) ∧ Hid (wr.heap[f 0]? = some (.cells ((minTo l k).map (Value.int .i64)).toArray 142 (0, 0))) ∧ Hid (Outside (f 0) (f 0 + 1) w2 wr)) (fun i _ => 3 - (intOf i).toNat)
  case atStart => exact ⟨0, by omega, rfl, (HV.out 0 (by omega)).2.2, ⟨rfl, rfl, rfl, rfl, fun _ _ => rfl⟩⟩
  case round =>
    obtain ⟨k, hk, rfl, HM, HO⟩ := hrel
    have hf0 := (HV.out 0 (by omega)).2.1
    by_cases hlt : k < 3
    · have hki : (k : Int) < 3 := by omega
      have hne : f 0 < f (k + 1) := HInc.out 0 (k + 1) (by omega) (by omega)
      have hrow := ack_row HK.out (i := k + 1) (by omega)
      obtain ⟨x0, x1, x2, x3, hx⟩ := four (minTo_ok HK.out hk)
      obtain ⟨y0, y1, y2, y3, hy⟩ := four hrow.1
      have hgx := vec_list hx HM.out
      have hgy := vec_list hy ((HO.out.block (f (k + 1)) (by omega)).trans (HV.out (k + 1) (by omega)).2.2)
      have hmn : minTo l (k + 1) = [min x0 y0, min x1 y1, min x2 y2, min x3 y3] := by show zipI min (minTo l k) (rowOf l (k + 1)) = _; rw [hx, hy]; rfl
      have HMn := Lib.hid hmn
      have c0 := ptr_at (k := k + 1) ((HO.out.block w1.heap.size (by omega)).trans HP.out) (by omega)
      rw [Nat.add_comm k 1] at c0
      generalize hfk : f (k + 1) = fk at hne hgy
      have hfk2 : f (1 + k) = fk := by rw [Nat.add_comm 1 k]; exact hfk
      rw [hfk2] at c0
      have hLw := Lib.hid (implLower wr (f 0) fk x0 x1 x2 x3 y0 y1 y2 y3 hgx hgy (by omega))
      clear hx hy hgx hgy hmn hrow hfk hfk2
      go_wp2_with fail
      refine hLw.out.mono ?_
      rintro e w3 ⟨rfl, ho, hg⟩
      have HM3 := Lib.hid (vec_back HMn.out hg)
      have HO3 : Hid (Outside (f 0) (f 0 + 1) w2 w3) := ⟨ho.os.trans HO.out.os, ho.tape.trans HO.out.tape, ho.output.trans HO.out.output, ho.size.trans HO.out.size, fun j hj => (ho.block j hj).trans (HO.out.block j hj)⟩
      clear ho hg c0
      go_wp2
      go_roundw
      case rel => exact ⟨k + 1, by omega, by go_num, HM3, HO3⟩
      case measure => simp [intOf]; omega
    · obtain rfl : k = 3 := by omega
      have HS := Lib.hid (stable_yes HK.out)
      obtain ⟨x0, x1, x2, x3, hx⟩ := four (minTo_ok HK.out hk)
      have hgx := vec_list hx HM.out
      obtain ⟨⟨c0, c1, c2, c3⟩, _⟩ := cells4 hgx
      have HX := Lib.hid hx
      have HBr := Lib.hid (HB2.out.trans (HO.out.below (B := w.heap.size) (by have := (HV.out 0 (by omega)).1; omega)))
      clear hgx hx
      go_wp2_with fail
      refine (vlist4 wr x0 x1 x2 x3).mono ?_
      rintro e w3 ⟨va, vc, rfl, ho, hb3⟩
      have HOw : Hid (Own w3 w.heap.size w3.heap.size va 4 [x0, x1, x2, x3]) := ho.more HBr.out.size (Nat.le_refl _)
      have HBf := Lib.hid (HBr.out.trans (hb3.mono HBr.out.size))
      clear ho hb3 c0 c1 c2 c3
      go_wp2
      go_ret
      exact ⟨va, vc, by rw [HS.out, HX.out]; rfl, by rw [HS.out, HX.out]; exact HOw.out, HBf.out⟩
end Go.Proofs.Ytmceofdknphgkaa
