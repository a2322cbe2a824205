/- The walks of impl's wireReader.word and of spec.ReadText. -/
import Derived.Test.YtbnfmgbailfbgaaDoorNumW
import Derived.Test.YtbnfmgbailfbgaaDoorShelf
import Derived.Lib.SmallJoins
namespace Go.Proofs.YtbnfmgbailfbgaaDoor
open Go.RowKit

theorem extract_le2 (s : ByteArray) (a n : Nat) : (s.extract a (a + n)).size ≤ n := by rw [ByteArray.size_extract]; omega
theorem clone (s : ByteArray) (h : s.size ≤ 1048576) (w : World) :
    Calls Tryd.prog 35 #[.string s] w fun e w' => e = .returned (.string s) ∧ Below w.heap.size w w' := by
  go_enter Tryd.func35, Tryd.ntmps35
  go_wp2_with fail
  refine (Tryd.stringslite_Clone s _ (by omega)).mono ?_
  rintro e w1 ⟨rfl, hb1⟩
  go_wp2
  go_ret
  exact ⟨rfl, hb1⟩
theorem rd_le (l : List UInt8) : (rd l).2.1 ≤ l.length := by
  unfold rd
  split
  · rename_i h
    rw [List.length_take] at h
    split
    · simp
    · simp; omega
  · simp
theorem grown_of_below {w w' : World} {g : Nat} (h : Below w.heap.size w w') : w.grownBy w' (some g) := ⟨h.os, h.tape, h.output, h.size, fun k hk _ => h.block k hk⟩
def TxtOk (s : ByteArray) : Prop := (rd s.data.toList).2.2 = true ∧ (rd s.data.toList).1 ≤ 4000 ∧ (rd s.data.toList).2.1 + (rd s.data.toList).1 ≤ s.size
def txtEnd (s : ByteArray) : Nat := (rd s.data.toList).2.1 + (rd s.data.toList).1
def txt (s : ByteArray) : ByteArray := s.extract (rd s.data.toList).2.1 (txtEnd s)
def WordPost (s : ByteArray) (u : TypeId) (x : Value) (w : World) (g : Nat) (e : Ending) (w' : World) : Prop :=
  w.grownBy w' (some g) ∧ ((TxtOk s ∧ e = .returned (.string (txt s)) ∧ RdrAt w' g s (txtEnd s)) ∨ (e = Thrown u x ∧ ¬ TxtOk s))

set_option maxRecDepth 100000 in
theorem word (w : World) (g : Nat) (s : ByteArray) (u : TypeId) (x : Value) (hs : s.size ≤ 1048576) (h : RdrAt w g s 0) (hE : Sent w u x) (hg : 0 < g) :
    Calls Tryd.prog 30 #[.pointer (some ⟨g, 0, none⟩)] w (WordPost s u x w g) := by
  have H := Lib.hid h
  have HE := Lib.hid hE
  clear h hE
  go_enter Tryd.func30, Tryd.ntmps30
  go_wp2_with fail
  refine (number _ g s u x hs H.out HE.out hg).mono ?_
  rintro e w1 ⟨hg1, ⟨rfl, hr1, ht⟩ | ⟨rfl, hx⟩⟩
  · have hE1 : w1.cell? ⟨0, 0, none⟩ = some (.iface u x) := HE.out.grown hg1 hg
    have hle := rd_le s.data.toList
    rw [← Lib.size_eq s] at hle
    have HT := Lib.hid (p := TxtOk s ↔ (rd s.data.toList).1 ≤ 4000 ∧ (rd s.data.toList).2.1 + (rd s.data.toList).1 ≤ s.size) (by unfold TxtOk; simp [ht])
    have HS : Hid (txt s = s.extract (rd s.data.toList).2.1 ((rd s.data.toList).2.1 + (rd s.data.toList).1) ∧ txtEnd s = (rd s.data.toList).2.1 + (rd s.data.toList).1) := ⟨rfl, rfl⟩
    have HG := Lib.hid hg1
    have HR := Lib.hid hr1
    clear hg1 hr1 ht
    obtain ⟨n, hn⟩ : ∃ n, n = (rd s.data.toList).1 := ⟨_, rfl⟩
    obtain ⟨a, ha⟩ : ∃ a, a = (rd s.data.toList).2.1 := ⟨_, rfl⟩
    rw [← hn, ← ha] at HT HS
    rw [← ha] at HR hle
    rw [← hn]
    clear hn ha
    have c0 : w1.cell? ⟨g, 0, none⟩ = some (.string s) := cell_of_row _ _ _ _ _ _ HR.out
    have c1 : w1.cell? ⟨g, 1, none⟩ = some (.int .i64 (a : Int)) := cell_of_row _ _ _ _ _ _ HR.out
    have f1 : w1.frozen? ⟨g, 1, none⟩ = false := frozen_of_row _ _ _ _ _ HR.out
    by_cases h4 : n ≤ 4000
    · have hd1 : decide ((4000 : Int) < (n : Int)) = false := by simp; omega
      by_cases h5 : a + n ≤ s.size
      · have hd2 : decide ((s.size : Int) - (a : Int) < (n : Int)) = false := by simp; omega
        go_wp2
        go_quiet (fail)
        go_wp2
        have HR2 : Hid (RdrAt ((w1.drewN nq).setCell ⟨g, 1, none⟩ (.int .i64 ((a : Int) + (n : Int)))) g s (a + n)) := by
          show RdrAt _ _ _ _
          unfold RdrAt
          rw [Int.natCast_add]
          exact heap_setCell_same (w1.drewN nq) g 1 _ _ _ HR.out
        have HG2 := Lib.hid (HG.out.trans (grownBy_set w1 nq g 1 (.int .i64 ((a : Int) + (n : Int)))))
        generalize (w1.drewN nq).setCell ⟨g, 1, none⟩ (.int .i64 ((a : Int) + (n : Int))) = w2 at HR2 HG2 ⊢
        clear c0 c1 f1 hE1 HR HG hd1 hd2
        have c0 : w2.cell? ⟨g, 0, none⟩ = some (.string s) := cell_of_row _ _ _ _ _ _ HR2.out
        have c1 : w2.cell? ⟨g, 1, none⟩ = some (.int .i64 ((a + n : Nat) : Int)) := cell_of_row _ _ _ _ _ _ HR2.out
        rw [Int.natCast_add] at c1
        have hw0 : (0 : Int) ≤ (a : Int) := by omega
        have hw1 : (a : Int) ≤ (a : Int) + (n : Int) := by omega
        have hw2 : (a : Int) + (n : Int) ≤ (s.size : Int) := by omega
        have hwt : ((a : Int) + (n : Int)).toNat = a + n := by omega
        go_region_held3 (fun w' => w'.cell? ⟨g, 0, none⟩ = some (.string s) ∧ w'.cell? ⟨g, 1, none⟩ = some (.int .i64 ((a : Int) + (n : Int)))) (first | go_keep | exact ⟨c0, c1⟩ | exact ⟨(hb3.cell (block_lt_of_cell c0)).trans c0, (hb3.cell (block_lt_of_cell c1)).trans c1⟩)
          (first | (go_at_call 35; refine (clone _ (Nat.le_trans (extract_le2 s a n) (by omega)) _).mono ?_; rintro e w3 ⟨rfl, hb3⟩))
        go_wp2
        go_ret
        have hg3 : w2.grownBy w3 (some g) := ⟨hb3.os, hb3.tape, hb3.output, hb3.size, fun k hk _ => hb3.block k hk⟩
        refine ⟨HG2.out.trans ⟨hg3.os, hg3.tape, hg3.output, hg3.size, hg3.block⟩, .inl ⟨HT.out.2 ⟨h4, h5⟩, by rw [HS.out.1]; rfl, ?_⟩⟩
        rw [HS.out.2]
        exact (hb3.block g (block_lt_of_cell c0)).trans HR2.out
      · have hd2 : decide ((s.size : Int) - (a : Int) < (n : Int)) = true := by simp; omega
        go_wp2
        go_quiet (fail)
        go_wp2
        exact ⟨rfl, HG.out.trans (grownBy_drewN _ _ _), .inr ⟨rfl, fun h => h5 (HT.out.1 h).2⟩⟩
    · have hd1 : decide ((4000 : Int) < (n : Int)) = true := by simp; omega
      go_wp2
      go_quiet (fail)
      go_wp2
      exact ⟨rfl, HG.out.trans (grownBy_drewN _ _ _), .inr ⟨rfl, fun h => h4 (HT.out.1 h).1⟩⟩
  · unfold Thrown
    exact ⟨rfl, hg1, .inr ⟨rfl, fun h => by unfold TxtOk at h; rw [hx] at h; simp at h⟩⟩
end Go.Proofs.YtbnfmgbailfbgaaDoor
