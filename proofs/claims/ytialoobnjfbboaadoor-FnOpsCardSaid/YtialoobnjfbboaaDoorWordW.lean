/- The walks of impl's wireReader.word and of spec.ReadText. -/
import Derived.Test.YtialoobnjfbboaaDoorNumW
import Derived.Test.YtialoobnjfbboaaDoorShelf
import Derived.Lib.SmallJoins
namespace Go.Proofs.YtialoobnjfbboaaDoor
open Go.RowKit

theorem extract_le2 (s : ByteArray) (a n : Nat) : (s.extract a (a + n)).size ≤ n := by rw [ByteArray.size_extract]; omega
theorem clone (s : ByteArray) (h : s.size ≤ 1048576) (w : World) :
    Calls Tryd.prog 45 #[.string s] w fun e w' => e = .returned (.string s) ∧ Below w.heap.size w w' := by
  go_enter Tryd.func45, Tryd.ntmps45
  go_wp2_with fail
  refine (Tryd.stringslite_Clone s _ (by omega)).mono ?_
  rintro e w1 ⟨rfl, hb1⟩
  go_wp2
  go_ret
  exact ⟨rfl, hb1⟩
theorem rd_le (l : List UInt8) : (rd l).2.1 ≤ l.length := by
  unfold rd
  split
  · rename_i h
    rw [List.length_take] at h
    split
    · simp
    · simp; omega
  · simp
theorem grown_of_below {w w' : World} {g : Nat} (h : Below w.heap.size w w') : w.grownBy w' (some g) := ⟨h.os, h.tape, h.output, h.size, fun k hk _ => h.block k hk⟩
def TxtOk (s : ByteArray) : Prop := (rd s.data.toList).2.2 = true ∧ (rd s.data.toList).1 ≤ 4000 ∧ (rd s.data.toList).2.1 + (rd s.data.toList).1 ≤ s.size
def txtEnd (s : ByteArray) : Nat := (rd s.data.toList).2.1 + (rd s.data.toList).1
def txt (s : ByteArray) : ByteArray := s.extract (rd s.data.toList).2.1 (txtEnd s)
/-- The text from place p on. -/
def cut (s : ByteArray) (p : Nat) : ByteArray := s.extract p s.size
theorem cut_list (s : ByteArray) (p : Nat) : (cut s p).data.toList = s.data.toList.drop p := by
  unfold cut
  rw [ByteArray.data_extract, Array.toList_extract, List.extract_eq_take_drop, List.take_of_length_le]
  rw [List.length_drop, Lib.size_eq]
  exact Nat.le_refl _
theorem cut_size (s : ByteArray) (p : Nat) : (cut s p).size = s.size - p := by
  rw [Lib.size_eq, cut_list, List.length_drop, Lib.size_eq]
theorem cut_zero (s : ByteArray) : cut s 0 = s := by
  cases s with | mk d =>
  have h : (cut ⟨d⟩ 0).data = d := Array.toList_inj.1 (cut_list ⟨d⟩ 0)
  cases hc : cut ⟨d⟩ 0 with | mk e => rw [hc] at h; rw [show e = d from h]
theorem cut_extract (s : ByteArray) (p a b : Nat) : (cut s p).extract a b = s.extract (p + a) (p + b) := by
  have h : ((cut s p).extract a b).data = (s.extract (p + a) (p + b)).data := by
    refine Array.toList_inj.1 ?_
    rw [ByteArray.data_extract, ByteArray.data_extract, Array.toList_extract, Array.toList_extract, List.extract_eq_take_drop, List.extract_eq_take_drop, cut_list, List.drop_drop]
    congr 1
    omega
  cases h1 : (cut s p).extract a b with | mk d1 =>
  cases h2 : s.extract (p + a) (p + b) with | mk d2 =>
  rw [h1, h2] at h
  rw [show d1 = d2 from h]
def WordPostP (s : ByteArray) (p : Nat) (u : TypeId) (x : Value) (w : World) (g : Nat) (e : Ending) (w' : World) : Prop :=
  w.grownBy w' (some g) ∧ ((TxtOk (cut s p) ∧ e = .returned (.string (txt (cut s p))) ∧ RdrAt w' g s (p + txtEnd (cut s p))) ∨ (e = Thrown u x ∧ ¬ TxtOk (cut s p)))

set_option maxRecDepth 100000 in
theorem wordP (w : World) (g : Nat) (s : ByteArray) (p : Nat) (u : TypeId) (x : Value) (hs : s.size ≤ 1048576) (hp : p ≤ s.size) (h : RdrAt w g s p) (hE : Sent w u x) (hg : 0 < g) :
    Calls Tryd.prog 38 #[.pointer (some ⟨g, 0, none⟩)] w (WordPostP s p u x w g) := by
  have H := Lib.hid h
  have HE := Lib.hid hE
  clear h hE
  go_enter Tryd.func38, Tryd.ntmps38
  go_wp2_with fail
  refine (numberP _ g s p u x hs hp H.out HE.out hg).mono ?_
  rintro e w1 ⟨hg1, ⟨rfl, hr1, ht⟩ | ⟨rfl, hx⟩⟩
  · have hE1 : w1.cell? ⟨0, 0, none⟩ = some (.iface u x) := HE.out.grown hg1 hg
    rw [← cut_list] at ht hr1 ⊢
    have hle := rd_le (cut s p).data.toList
    rw [← Lib.size_eq, cut_size] at hle
    have HT := Lib.hid (p := TxtOk (cut s p) ↔ (rd (cut s p).data.toList).1 ≤ 4000 ∧ p + (rd (cut s p).data.toList).2.1 + (rd (cut s p).data.toList).1 ≤ s.size) (by unfold TxtOk; rw [cut_size]; simp [ht]; omega)
    have HS : Hid (txt (cut s p) = (cut s p).extract (rd (cut s p).data.toList).2.1 ((rd (cut s p).data.toList).2.1 + (rd (cut s p).data.toList).1) ∧ txtEnd (cut s p) = (rd (cut s p).data.toList).2.1 + (rd (cut s p).data.toList).1) := ⟨rfl, rfl⟩
    have HG := Lib.hid hg1
    have HR := Lib.hid hr1
    clear hg1 hr1 ht
    obtain ⟨n, hn⟩ : ∃ n, n = (rd (cut s p).data.toList).1 := ⟨_, rfl⟩
    obtain ⟨a0, ha⟩ : ∃ a, a = (rd (cut s p).data.toList).2.1 := ⟨_, rfl⟩
    rw [← hn, ← ha] at HT HS
    rw [← ha] at HR hle
    rw [← hn]
    clear hn ha
    obtain ⟨a, ha⟩ : ∃ a, a = p + a0 := ⟨_, rfl⟩
    have HA := Lib.hid ha
    rw [← ha] at HT HR
    have hle2 : a ≤ s.size := by omega
    clear ha hle
    have c0 : w1.cell? ⟨g, 0, none⟩ = some (.string s) := cell_of_row _ _ _ _ _ _ HR.out
    have c1 : w1.cell? ⟨g, 1, none⟩ = some (.int .i64 (a : Int)) := cell_of_row _ _ _ _ _ _ HR.out
    have f1 : w1.frozen? ⟨g, 1, none⟩ = false := frozen_of_row _ _ _ _ _ HR.out
    by_cases h4 : n ≤ 4000
    · have hd1 : decide ((4000 : Int) < (n : Int)) = false := by simp; omega
      by_cases h5 : a + n ≤ s.size
      · have hd2 : decide ((s.size : Int) - (a : Int) < (n : Int)) = false := by simp; omega
        go_wp2
        go_quiet (fail)
        go_wp2
        have HR2 : Hid (RdrAt ((w1.drewN nq).setCell ⟨g, 1, none⟩ (.int .i64 ((a : Int) + (n : Int)))) g s (a + n)) := by
          show RdrAt _ _ _ _
          unfold RdrAt
          rw [Int.natCast_add]
          exact heap_setCell_same (w1.drewN nq) g 1 _ _ _ HR.out
        have HG2 := Lib.hid (HG.out.trans (grownBy_put w1 nq g 1 (.int .i64 ((a : Int) + (n : Int)))))
        generalize (w1.drewN nq).setCell ⟨g, 1, none⟩ (.int .i64 ((a : Int) + (n : Int))) = w2 at HR2 HG2 ⊢
        clear c0 c1 f1 hE1 HR HG hd1 hd2
        have c0 : w2.cell? ⟨g, 0, none⟩ = some (.string s) := cell_of_row _ _ _ _ _ _ HR2.out
        have c1 : w2.cell? ⟨g, 1, none⟩ = some (.int .i64 ((a + n : Nat) : Int)) := cell_of_row _ _ _ _ _ _ HR2.out
        rw [Int.natCast_add] at c1
        have hw0 : (0 : Int) ≤ (a : Int) := by omega
        have hw1 : (a : Int) ≤ (a : Int) + (n : Int) := by omega
        have hw2 : (a : Int) + (n : Int) ≤ (s.size : Int) := by omega
        have hwt : ((a : Int) + (n : Int)).toNat = a + n := by omega
        go_region_held3 (fun w' => w'.cell? ⟨g, 0, none⟩ = some (.string s) ∧ w'.cell? ⟨g, 1, none⟩ = some (.int .i64 ((a : Int) + (n : Int)))) (first | go_keep | exact ⟨c0, c1⟩ | exact ⟨(hb3.cell (block_lt_of_cell c0)).trans c0, (hb3.cell (block_lt_of_cell c1)).trans c1⟩)
          (first | (go_at_call 45; refine (clone _ (Nat.le_trans (extract_le2 s a n) (by omega)) _).mono ?_; rintro e w3 ⟨rfl, hb3⟩))
        go_wp2
        go_ret
        have hg3 : w2.grownBy w3 (some g) := ⟨hb3.os, hb3.tape, hb3.output, hb3.size, fun k hk _ => hb3.block k hk⟩
        have hcx : txt (cut s p) = s.extract a (a + n) := by rw [HS.out.1, cut_extract s p, HA.out, Nat.add_assoc]
        refine ⟨HG2.out.trans ⟨hg3.os, hg3.tape, hg3.output, hg3.size, hg3.block⟩, .inl ⟨HT.out.2 ⟨h4, h5⟩, by rw [hcx]; rfl, ?_⟩⟩
        rw [HS.out.2, ← Nat.add_assoc, ← HA.out]
        exact (hb3.block g (block_lt_of_cell c0)).trans HR2.out
      · have hd2 : decide ((s.size : Int) - (a : Int) < (n : Int)) = true := by simp; omega
        go_wp2
        go_quiet (fail)
        go_wp2
        exact ⟨rfl, HG.out.trans (grownBy_drewN _ _ _), .inr ⟨rfl, fun h => h5 (HT.out.1 h).2⟩⟩
    · have hd1 : decide ((4000 : Int) < (n : Int)) = true := by simp; omega
      go_wp2
      go_quiet (fail)
      go_wp2
      exact ⟨rfl, HG.out.trans (grownBy_drewN _ _ _), .inr ⟨rfl, fun h => h4 (HT.out.1 h).1⟩⟩
  · unfold Thrown
    exact ⟨rfl, hg1, .inr ⟨rfl, fun h => by unfold TxtOk at h; rw [cut_list, hx] at h; simp at h⟩⟩
def WordPost (s : ByteArray) (u : TypeId) (x : Value) (w : World) (g : Nat) (e : Ending) (w' : World) : Prop :=
  w.grownBy w' (some g) ∧ ((TxtOk s ∧ e = .returned (.string (txt s)) ∧ RdrAt w' g s (txtEnd s)) ∨ (e = Thrown u x ∧ ¬ TxtOk s))
theorem word (w : World) (g : Nat) (s : ByteArray) (u : TypeId) (x : Value) (hs : s.size ≤ 1048576) (h : RdrAt w g s 0) (hE : Sent w u x) (hg : 0 < g) :
    Calls Tryd.prog 38 #[.pointer (some ⟨g, 0, none⟩)] w (WordPost s u x w g) :=
  (wordP w g s 0 u x hs (Nat.zero_le _) h hE hg).mono fun e w' hq => by
    unfold WordPostP at hq
    rw [cut_zero, Nat.zero_add] at hq
    exact hq
end Go.Proofs.YtialoobnjfbboaaDoor
