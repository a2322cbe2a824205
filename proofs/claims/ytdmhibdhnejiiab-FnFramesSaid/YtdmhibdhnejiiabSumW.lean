/- The walks of impl.checksum, impl.SumOf, spec.l1Sum, spec.SumOf: the checksum of a string. -/
import Derived.Test.YtdmhibdhnejiiabRows
import Derived.Test.YtdmhibdhnejiiabCrcMath
import Derived.Test.YtdmhibdhnejiiabVarW
import Derived.Laws.Rows
namespace Go.Proofs.Ytdmhibdhnejiiab
open Go.RowKit

theorem ret_int {k : IntKind} {a b : Int} (h : a = b) : Ending.returned (.int k a) = .returned (.int k b) := by rw [h]
def Reg32 (n : Nat) : Prop := n < 4294967296

theorem take_snoc (s : ByteArray) (k : Nat) (h : k < s.size) : s.data.toList.take (k + 1) = s.data.toList.take k ++ [s[k]] := by
  rw [List.take_succ_eq_append_getElem (by simpa using h)]; rfl


/-- The table of the checksum when its first k entries are laid. -/
def tabVals (k : Nat) : Array Value := ((List.range 16).map fun j => Value.int .u32 ((if j < k then crcBits 4 j else 0 : Nat) : Int)).toArray

theorem tabVals_size (k : Nat) : (tabVals k).size = 16 := by simp [tabVals]
theorem tabVals_at {k j : Nat} (h : j < 16) : (tabVals k)[j]? = some (.int .u32 ((if j < k then crcBits 4 j else 0 : Nat) : Int)) := by
  simp [tabVals, h]
theorem tabVals_set (k : Nat) : (tabVals k).setIfInBounds k (.int .u32 (crcBits 4 k : Nat)) = tabVals (k + 1) := by
  apply Array.ext_getElem?
  intro i
  rw [Array.getElem?_setIfInBounds]
  by_cases hi : i < 16
  · have eR := tabVals_at (k := k + 1) hi
    have eL := tabVals_at (k := k) hi
    rw [eR, eL]
    by_cases hk : k = i
    · subst hk
      rw [if_pos rfl, if_pos (by rw [tabVals_size]; exact hi), if_pos (by omega)]
    · rw [if_neg hk]
      by_cases hlt : i < k
      · rw [if_pos hlt, if_pos (by omega)]
      · rw [if_neg hlt, if_neg (by omega)]
  · have e1 : (tabVals k)[i]? = none := Array.getElem?_eq_none (by rw [tabVals_size]; omega)
    have e2 : (tabVals (k + 1))[i]? = none := Array.getElem?_eq_none (by rw [tabVals_size]; omega)
    rw [e1, e2]
    by_cases hk : k = i
    · subst hk
      rw [if_pos rfl, if_neg (by rw [tabVals_size]; exact hi)]
    · rw [if_neg hk]
theorem tabVals_one (k : Nat) : (tabVals k).all (·.oneCell') = true := by
  simp [tabVals, Value.oneCell']
/-- The memory of sumTable: its result's block, and the table's. -/
structure TabMem (w wr : World) (k : Nat) : Prop where
  below : Below w.heap.size w wr
  res : wr.heap[w.heap.size]? = some (.cells (tabVals 0) 73 (0, 0))
  tab : wr.heap[w.heap.size + 1]? = some (.cells (tabVals k) 73 (0, 0))
theorem TabMem.step {w wr : World} {k : Nat} (h : TabMem w wr k) : TabMem w (wr.setCell ⟨w.heap.size + 1, k, none⟩ (.int .u32 (crcBits 4 k : Nat))) (k + 1) :=
  ⟨h.below.setCell (by show _ ≤ w.heap.size + 1; omega) _, by rw [heap_setCell_other _ _ _ _ (by show w.heap.size ≠ w.heap.size + 1; omega)]; exact h.res,
   by rw [heap_setCell_same _ _ _ _ _ _ h.tab, tabVals_set]⟩
theorem Try.infoTab : (Try.prog.info? 73).map (·.size) = some 16 := by kernel_rfl

set_option maxRecDepth 100000 in
set_option maxHeartbeats 400000 in
theorem sumTable (w : World) :
    Calls Try.prog 54 #[] w fun e w' => e = .returned (.agg (tabVals 16)) ∧ Below w.heap.size w w' := by
  go_enter Try.func54, Try.ntmps54
  go_wp2
  go_loopw [2, 3, 4, 5, 10] (fun _ _ _ i _ wr => ∃ k : Nat, k ≤ 16 ∧ i = .int .i64 k ∧ TabMem w wr k) (fun _ _ _ i _ _ => 16 - (intOf i).toNat)
  case atStart =>
    refine ⟨0, by omega, rfl, ?_, ?_, ?_⟩
    · exact ((Below.refl _ _).alloc (Nat.le_refl _) _).alloc (by simp) _
    · exact heap_alloc2_old _ _ _
    · exact heap_alloc2_new _ _ _
  case round =>
    obtain ⟨k, hk, rfl, hmem⟩ := hrel
    by_cases hlt : k < 16
    · have hcell : wr.cell? ⟨w.heap.size + 1, k, none⟩ = some (.int .u32 0) := by
        rw [cell_of_row _ _ _ _ _ _ hmem.tab, tabVals_at hlt, if_neg (by omega)]; rfl
      have hfz : wr.frozen? ⟨w.heap.size + 1, k, none⟩ = false := frozen_of_row _ _ _ _ _ hmem.tab
      go_wp2
      go_loop [3, 4, 10] (fun c _ j => ∃ n : Nat, n ≤ 4 ∧ j = .int .i64 n ∧ c = .int .u32 (crcBits n k : Nat)) (fun _ _ j => 4 - (intOf j).toNat)
      case atStart => exact ⟨0, by omega, rfl, by simp [crcBits]⟩
      case round =>
        obtain ⟨n, hn, rfl, rfl⟩ := hrel
        have hC : Reg32 (crcBits n k) := crcBits_lt n (by omega)
        by_cases hn4 : n < 4
        · have HB : Hid (∃ C, C = crcBits n k) := ⟨_, rfl⟩
          obtain ⟨C, hCe⟩ := HB
          rw [← hCe] at hC ⊢
          have HC := Lib.hid hCe
          clear hCe
          by_cases ho : C % 2 = 1
          · have ht := test_odd hC ho
            go_wp2
            clear ht
            go_round
            case rel => exact ⟨n + 1, by omega, by go_num, by rw [xorPoly _ hC, ← crcBit_odd ho, HC.out]; rfl⟩
            case measure => simp [intOf]; omega
          · have ht := test_even hC ho
            go_wp2
            clear ht
            go_round
            case rel => exact ⟨n + 1, by omega, by go_num, by rw [show ((C : Int) / 2) = ((C / 2 : Nat) : Int) by omega, ← crcBit_even ho, HC.out]; rfl⟩
            case measure => simp [intOf]; omega
        · obtain rfl : n = 4 := by omega
          go_wp2
          go_roundw
          case rel => exact ⟨k + 1, by omega, by go_num, hmem.step⟩
          case measure => simp [intOf]; omega
    · obtain rfl : k = 16 := by omega
      go_wp2_with (first | (refine wpList_load_row rfl 73 (.tmp 1) rfl (w.heap.size + 1) rfl 73 (tabVals 16) (0, 0) _ hmem.tab Try.underlying73 rfl (by rw [tabVals_size]; exact Try.infoTab) ?_) | (refine wpList_store_row rfl 73 (.tmp 0) (.tmp 25) rfl w.heap.size (tabVals 16) rfl rfl 73 (tabVals 0) hmem.res (by rw [tabVals_size]; exact Try.infoTab) (by rw [tabVals_size, tabVals_size]) (tabVals_one _) ?_))
      refine bodyPost_ret (v := .agg (tabVals 16)) (results_cell_row Try.results54 _ _ w.heap.size 73 (tabVals 16) (0, 0) _ rfl (setRow_heap _ _ _ _ _ _ hmem.res) Try.underlying73 rfl (by rw [tabVals_size]; exact Try.infoTab)) rfl ⟨rfl, ?_⟩
      exact hmem.below.trans ⟨rfl, rfl, rfl, by simp, fun j hj => setRow_other _ _ _ _ (by omega)⟩

set_option maxRecDepth 100000 in
set_option maxHeartbeats 400000 in
theorem checksum (s : ByteArray) (hs : s.size ≤ 1048576) (w : World) :
    Calls Try.prog 42 #[.string s] w fun e w' => e = .returned (.int .u32 (crc s.data.toList : Nat)) ∧ Below w.heap.size w w' := by
  go_enter Try.func42, Try.ntmps42
  go_wp2_with fail
  refine (sumTable _).mono ?_
  rintro e w1 ⟨rfl, hb1⟩
  have hB1 := hb1.size
  go_wp2_with (refine wpList_store_row rfl 73 (.tmp 3) (.tmp 6) rfl w1.heap.size (tabVals 16) rfl rfl 73 (tabVals 0) (heap_alloc_new _ _) (by rw [tabVals_size]; exact Try.infoTab) (by rw [tabVals_size, tabVals_size]) (tabVals_one _) ?_)
  generalize hW2 : World.setRow _ w1.heap.size (tabVals 16) = W2
  have htab : W2.heap[w1.heap.size]? = some (.cells (tabVals 16) 73 (0, 0)) := by rw [← hW2]; exact setRow_heap _ _ _ _ _ _ (heap_alloc_new _ _)
  have hbel : Below w.heap.size w W2 := by
    rw [← hW2]
    exact (hb1.alloc hB1 _).trans ⟨rfl, rfl, rfl, by simp, fun j hj => setRow_other _ _ _ _ (by omega)⟩
  have HT := Lib.hid htab
  clear htab hW2
  go_loop [4, 5, 9] (fun c _ i => ∃ k : Nat, k ≤ s.size ∧ i = .int .i64 k ∧ c = .int .u32 (crcReg (s.data.toList.take k) : Nat)) (fun _ _ i => s.size - (intOf i).toNat)
  case atStart => exact ⟨0, Nat.zero_le _, rfl, rfl⟩
  case round =>
    obtain ⟨k, hk, rfl, rfl⟩ := hrel
    have hR : Reg32 (crcReg (s.data.toList.take k)) := crcReg_lt _
    by_cases hlt : k < s.size
    · have HS := Lib.hid (crcReg_snoc (s.data.toList.take k) s[k])
      have HK := Lib.hid (take_snoc s k hlt)
      obtain ⟨X, hX, eX, hx⟩ := nibs (crcReg (s.data.toList.take k)) hR s[k]
      obtain ⟨r1, T1, Y1, hr1, eT1, eY1, hY1, ha1, hx1⟩ := nib X hX
      obtain ⟨r2, T2, Y2, hr2, eT2, eY2, hY2, ha2, hx2⟩ := nib Y1 hY1
      have hc1 : W2.cell? ⟨w1.heap.size, r1, none⟩ = some (.int .u32 (T1 : Int)) := by rw [cell_of_row _ _ _ _ _ _ HT.out, tabVals_at hr1, if_pos hr1, eT1]
      have hc2 : W2.cell? ⟨w1.heap.size, r2, none⟩ = some (.int .u32 (T2 : Int)) := by rw [cell_of_row _ _ _ _ _ _ HT.out, tabVals_at hr2, if_pos hr2, eT2]
      have HE : Hid (Y2 = crcReg (s.data.toList.take (k + 1))) := by rw [eY2, eY1, eX, HK.out, HS.out]; rfl
      clear eT1 eY1 eT2 eY2 eX hY1 hY2 hX HS HK
      go_wp2
      clear hx hx1 hx2 ha1 ha2
      go_round
      case rel => exact ⟨k + 1, by omega, by go_num, by rw [HE.out]⟩
      case measure => simp [intOf]; omega
    · go_wp2
      go_ret
      exact ⟨ret_int (by rw [sum_not, List.take_of_length_le (by simp; omega)]), hbel⟩

end Go.Proofs.Ytdmhibdhnejiiab
