/- Walks and mathematics that several claims share, part 21. -/
import Derived.Test.YthkagbnpcjidfaaGreatDoorGq3
import Derived.Deep.Cut
namespace Go.Proofs.YthkagbnpcjidfaaGreatDoor
set_option maxRecDepth 100000
open Go.RowKit
set_option linter.unusedVariables false
set_option linter.unusedSimpArgs false
def fT (kind : Int) (item : ByteArray) (qty dev seq : Int) : Bool :=
 if kind = 1 ∨ kind = 2 then gK item && (cS qty 1 999 && decide (dev = 0 ∧ seq = 0))
 else if kind = 3 ∨ kind = 4 ∨ kind = 5 then gK item && decide (qty = 0 ∧ dev = 0 ∧ seq = 0)
 else if kind = 6 ∨ kind = 7 ∨ kind = 8 then decide (item = ⟨#[]⟩ ∧ qty = 0 ∧ dev = 0 ∧ seq = 0)
 else if kind = 9 then decide (item = ⟨#[]⟩ ∧ qty = 0) && (cS dev 0 3 && cS seq 1 40)
 else false
theorem aMb {s : ByteArray} (h : ¬ s = ⟨#[]⟩) : s.toList ≠ [] := fun e => h (by
 rw [Lib.toList_data] at e
 exact ByteArray.ext (Array.toList_eq_nil_iff.1 e))
theorem H7 (dev : Int) (w : World) : Calls Tryz.prog 53 #[.int .i64 dev] w fun e w' => e = .returned (.bool (cS dev 0 3)) ∧ w = w' := by
 go_enter Tryz.func53, Tryz.ntmps53
 go_wp2_with fail
 refine (cJ _ _ _ _).mono ?_
 rintro e w' ⟨rfl, rfl⟩
 go_wp2
 go_ret
 exact ⟨rfl, rfl⟩
theorem zJ (s : ByteArray) : ∃ z, decide (s = ⟨#[]⟩) = z ∧ ((z = true ∧ s = ⟨#[]⟩) ∨ (z = false ∧ s.toList ≠ [] ∧ s.toList.isEmpty = false ∧ (s.toList == []) = false)) := by
 by_cases h : s = ⟨#[]⟩
 ·exact ⟨true, decide_eq_true h, .inl ⟨rfl, h⟩⟩
 ·have h1 := aMb h
  exact ⟨false, decide_eq_false h, .inr ⟨rfl, h1, by rw [List.isEmpty_eq_false_iff]; exact h1, by rw [beq_eq_false_iff_ne]; exact h1⟩⟩
theorem aIS {kind : Int} (hk : kind = 1 ∨ kind = 2) (item : ByteArray) (qty dev seq : Int) : fT kind item qty dev seq = (gK item && (cS qty 1 999 && ((dev == 0) && (seq == 0)))) := by
 rcases hk with rfl | rfl <;> by_cases h1 : item = ⟨#[]⟩ <;> by_cases h2 : qty = 0 <;> by_cases h3 : dev = 0 <;> by_cases h4 : seq = 0 <;> simp [fT, h1, h2, h3, h4]
theorem aIR {kind : Int} (hk : kind = 3 ∨ kind = 4 ∨ kind = 5) (item : ByteArray) (qty dev seq : Int) : fT kind item qty dev seq = (gK item && ((qty == 0) && ((dev == 0) && (seq == 0)))) := by
 rcases hk with rfl | rfl | rfl <;> by_cases h1 : item = ⟨#[]⟩ <;> by_cases h2 : qty = 0 <;> by_cases h3 : dev = 0 <;> by_cases h4 : seq = 0 <;> simp [fT, h1, h2, h3, h4]
theorem aIQ {kind : Int} (hk : kind = 6 ∨ kind = 7 ∨ kind = 8) (item : ByteArray) (qty dev seq : Int) : fT kind item qty dev seq = (decide (item = ⟨#[]⟩) && ((qty == 0) && ((dev == 0) && (seq == 0)))) := by
 rcases hk with rfl | rfl | rfl <;> by_cases h1 : item = ⟨#[]⟩ <;> by_cases h2 : qty = 0 <;> by_cases h3 : dev = 0 <;> by_cases h4 : seq = 0 <;> simp [fT, h1, h2, h3, h4]
theorem aIP {kind : Int} (hk : kind = 9) (item : ByteArray) (qty dev seq : Int) : fT kind item qty dev seq = ((decide (item = ⟨#[]⟩) && (qty == 0)) && (cS dev 0 3 && cS seq 1 40)) := by
 rcases hk with rfl <;> by_cases h1 : item = ⟨#[]⟩ <;> by_cases h2 : qty = 0 <;> by_cases h3 : dev = 0 <;> by_cases h4 : seq = 0 <;> simp [fT, h1, h2, h3, h4]
theorem aDj {kind : Int} {item : ByteArray} {qty dev seq : Int} (h1 : kind ≠ 1) (h2 : kind ≠ 2) (h3 : kind ≠ 3) (h4 : kind ≠ 4) (h5 : kind ≠ 5) (h6 : kind ≠ 6) (h7 : kind ≠ 7) (h8 : kind ≠ 8) (h9 : kind ≠ 9) : fT kind item qty dev seq = false := by
 unfold fT
 rw [if_neg (by omega), if_neg (by omega), if_neg (by omega), if_neg h9]
set_option maxHeartbeats 40000000 in
theorem aID {kind : Int} (hk : kind = 1 ∨ kind = 2) (item : ByteArray) (qty dev seq : Int) (w : World) : Calls Tryz.prog 21 #[.agg #[.int .i64 kind, .string item, .int .i64 qty, .int .i64 dev, .int .i64 seq]] w fun e w' => e = .returned (.bool (fT kind item qty dev seq)) ∧ Below w.heap.size w w' := by
 have gT := aIS hk item qty dev seq
 obtain ⟨ib, qW⟩ : ∃ b, gK item = b := ⟨_, rfl⟩
 obtain ⟨qb, hqb⟩ : ∃ b, cS qty 1 999 = b := ⟨_, rfl⟩
 obtain ⟨zd, hzd⟩ : ∃ b, (dev == 0) = b := ⟨_, rfl⟩
 obtain ⟨zs, mF⟩ : ∃ b, (seq == 0) = b := ⟨_, rfl⟩
 rw [qW, hqb, hzd, mF] at gT
 have HE := aRp gT
 have D2 := aRp qW
 have Hqb := aRp hqb
 clear gT qW hqb
 rcases hk with rfl | rfl <;> cases ib <;> cases qb <;> cases zd <;> cases zs <;>
  (go_enter Tryz.func21, Tryz.ntmps21; go_wp2_with (first | (go_at_call 51; refine (qG _ _).mono ?_; rintro e w' ⟨rfl, rfl⟩; (first | rw [D2.out] | rw [Hqb.out] | skip)) | (go_at_call 52; refine (cJ _ _ _ _).mono ?_; rintro e w' ⟨rfl, rfl⟩; (first | rw [D2.out] | rw [Hqb.out] | skip)) | (go_at_call 53; refine (H7 _ _).mono ?_; rintro e w' ⟨rfl, rfl⟩; (first | rw [D2.out] | rw [Hqb.out] | skip))); go_ret; exact ⟨by rw [HE.out]; rfl, bl⟩)
set_option maxHeartbeats 40000000 in
theorem aIC {kind : Int} (hk : kind = 3 ∨ kind = 4 ∨ kind = 5) (item : ByteArray) (qty dev seq : Int) (w : World) : Calls Tryz.prog 21 #[.agg #[.int .i64 kind, .string item, .int .i64 qty, .int .i64 dev, .int .i64 seq]] w fun e w' => e = .returned (.bool (fT kind item qty dev seq)) ∧ Below w.heap.size w w' := by
 have gT := aIR hk item qty dev seq
 obtain ⟨ib, qW⟩ : ∃ b, gK item = b := ⟨_, rfl⟩
 obtain ⟨q0, X0⟩ : ∃ b, (qty == 0) = b := ⟨_, rfl⟩
 obtain ⟨zd, hzd⟩ : ∃ b, (dev == 0) = b := ⟨_, rfl⟩
 obtain ⟨zs, mF⟩ : ∃ b, (seq == 0) = b := ⟨_, rfl⟩
 rw [qW, X0, hzd, mF] at gT
 have HE := aRp gT
 have D2 := aRp qW
 clear gT qW
 rcases hk with rfl | rfl | rfl <;> cases ib <;> cases q0 <;> cases zd <;> cases zs <;>
  (go_enter Tryz.func21, Tryz.ntmps21; go_wp2_with (first | (go_at_call 51; refine (qG _ _).mono ?_; rintro e w' ⟨rfl, rfl⟩; (first | rw [D2.out] | skip)) | (go_at_call 52; refine (cJ _ _ _ _).mono ?_; rintro e w' ⟨rfl, rfl⟩; (first | rw [D2.out] | skip)) | (go_at_call 53; refine (H7 _ _).mono ?_; rintro e w' ⟨rfl, rfl⟩; (first | rw [D2.out] | skip))); go_ret; exact ⟨by rw [HE.out]; rfl, bl⟩)
set_option maxHeartbeats 40000000 in
theorem aIB {kind : Int} (hk : kind = 6 ∨ kind = 7 ∨ kind = 8) (item : ByteArray) (qty dev seq : Int) (w : World) : Calls Tryz.prog 21 #[.agg #[.int .i64 kind, .string item, .int .i64 qty, .int .i64 dev, .int .i64 seq]] w fun e w' => e = .returned (.bool (fT kind item qty dev seq)) ∧ Below w.heap.size w w' := by
 have gT := aIQ hk item qty dev seq
 obtain ⟨z, hz, zL⟩ := zJ item
 obtain ⟨q0, X0⟩ : ∃ b, (qty == 0) = b := ⟨_, rfl⟩
 obtain ⟨zd, hzd⟩ : ∃ b, (dev == 0) = b := ⟨_, rfl⟩
 obtain ⟨zs, mF⟩ : ∃ b, (seq == 0) = b := ⟨_, rfl⟩
 rw [hz, X0, hzd, mF] at gT
 have HE := aRp gT
 clear gT hz
 rcases hk with rfl | rfl | rfl <;> rcases zL with ⟨rfl, rfl⟩ | ⟨rfl, hn1, yO, yN⟩ <;> cases q0 <;> cases zd <;> cases zs <;>
  (go_enter Tryz.func21, Tryz.ntmps21; go_wp2_with (first | (go_at_call 51; refine (qG _ _).mono ?_; rintro e w' ⟨rfl, rfl⟩; (first | skip)) | (go_at_call 52; refine (cJ _ _ _ _).mono ?_; rintro e w' ⟨rfl, rfl⟩; (first | skip)) | (go_at_call 53; refine (H7 _ _).mono ?_; rintro e w' ⟨rfl, rfl⟩; (first | skip))); go_ret; exact ⟨by rw [HE.out]; rfl, bl⟩)
set_option maxHeartbeats 40000000 in
theorem aIA {kind : Int} (hk : kind = 9) (item : ByteArray) (qty dev seq : Int) (w : World) : Calls Tryz.prog 21 #[.agg #[.int .i64 kind, .string item, .int .i64 qty, .int .i64 dev, .int .i64 seq]] w fun e w' => e = .returned (.bool (fT kind item qty dev seq)) ∧ Below w.heap.size w w' := by
 have gT := aIP hk item qty dev seq
 obtain ⟨z, hz, zL⟩ := zJ item
 obtain ⟨q0, X0⟩ : ∃ b, (qty == 0) = b := ⟨_, rfl⟩
 obtain ⟨db, N1⟩ : ∃ b, cS dev 0 3 = b := ⟨_, rfl⟩
 obtain ⟨sb, hsb⟩ : ∃ b, cS seq 1 40 = b := ⟨_, rfl⟩
 rw [hz, X0, N1, hsb] at gT
 have HE := aRp gT
 have Hdb := aRp N1
 have Hsb := aRp hsb
 clear gT hz N1 hsb
 rcases hk with rfl <;> rcases zL with ⟨rfl, rfl⟩ | ⟨rfl, hn1, yO, yN⟩ <;> cases q0 <;> cases db <;> cases sb <;>
  (go_enter Tryz.func21, Tryz.ntmps21; go_wp2_with (first | (go_at_call 51; refine (qG _ _).mono ?_; rintro e w' ⟨rfl, rfl⟩; (first | rw [Hdb.out] | rw [Hsb.out] | skip)) | (go_at_call 52; refine (cJ _ _ _ _).mono ?_; rintro e w' ⟨rfl, rfl⟩; (first | rw [Hdb.out] | rw [Hsb.out] | skip)) | (go_at_call 53; refine (H7 _ _).mono ?_; rintro e w' ⟨rfl, rfl⟩; (first | rw [Hdb.out] | rw [Hsb.out] | skip))); go_ret; exact ⟨by rw [HE.out]; rfl, bl⟩)
set_option maxHeartbeats 20000000 in
theorem M7 (kind : Int) (item : ByteArray) (qty dev seq : Int) (w : World) : Calls Tryz.prog 21 #[.agg #[.int .i64 kind, .string item, .int .i64 qty, .int .i64 dev, .int .i64 seq]] w fun e w' => e = .returned (.bool (fT kind item qty dev seq)) ∧ Below w.heap.size w w' := by
 by_cases g1 : kind = 1 ∨ kind = 2
 ·exact aID g1 item qty dev seq w
 by_cases g2 : kind = 3 ∨ kind = 4 ∨ kind = 5
 ·exact aIC g2 item qty dev seq w
 by_cases g3 : kind = 6 ∨ kind = 7 ∨ kind = 8
 ·exact aIB g3 item qty dev seq w
 by_cases g4 : kind = 9
 ·exact aIA g4 item qty dev seq w
 have HE := aRp (aDj (item := item) (qty := qty) (dev := dev) (seq := seq) (kind := kind) (fun e => g1 (by omega)) (fun e => g1 (by omega)) (fun e => g2 (by omega)) (fun e => g2 (by omega)) (fun e => g2 (by omega)) (fun e => g3 (by omega)) (fun e => g3 (by omega)) (fun e => g3 (by omega)) (fun e => g4 (by omega)))
 have b1 : (kind == 1) = false := by rw [beq_eq_false_iff_ne]; exact fun e => g1 (by omega)
 have b2 : (kind == 2) = false := by rw [beq_eq_false_iff_ne]; exact fun e => g1 (by omega)
 have b3 : (kind == 3) = false := by rw [beq_eq_false_iff_ne]; exact fun e => g2 (by omega)
 have b4 : (kind == 4) = false := by rw [beq_eq_false_iff_ne]; exact fun e => g2 (by omega)
 have b5 : (kind == 5) = false := by rw [beq_eq_false_iff_ne]; exact fun e => g2 (by omega)
 have b6 : (kind == 6) = false := by rw [beq_eq_false_iff_ne]; exact fun e => g3 (by omega)
 have b7 : (kind == 7) = false := by rw [beq_eq_false_iff_ne]; exact fun e => g3 (by omega)
 have b8 : (kind == 8) = false := by rw [beq_eq_false_iff_ne]; exact fun e => g3 (by omega)
 have b9 : (kind == 9) = false := by rw [beq_eq_false_iff_ne]; exact fun e => g4 (by omega)
 clear g1 g2 g3 g4
 go_enter Tryz.func21, Tryz.ntmps21
 go_wp2
 go_ret
 exact ⟨by rw [HE.out]; rfl, bl⟩
end Go.Proofs.YthkagbnpcjidfaaGreatDoor
namespace Go.Proofs.YthkagbnpcjidfaaGreatDoor
set_option maxRecDepth 100000
end Go.Proofs.YthkagbnpcjidfaaGreatDoor
namespace Go.Proofs.YthkagbnpcjidfaaGreatDoor
set_option maxRecDepth 100000
open Go.RowKit
set_option linter.unusedVariables false
set_option linter.unusedSimpArgs false
theorem aIt (x : Int) : x = 0 ∨ (x == 0) = false := by
 by_cases h : x = 0
 ·exact .inl h
 ·exact .inr (by rw [beq_eq_false_iff_ne]; exact h)
set_option maxHeartbeats 40000000 in
theorem aHV {kind : Int} (hk : kind = 1 ∨ kind = 2) (item : ByteArray) (qty dev seq : Int) (hs : item.size ≤ 1048576) (w : World) : Calls Tryz.prog 22 #[.agg #[.int .i64 kind, .string item, .int .i64 qty, .int .i64 dev, .int .i64 seq]] w fun e w' => e = .returned (.bool (fT kind item qty dev seq)) ∧ Below w.heap.size w w' := by
 have gT := aIS hk item qty dev seq
 obtain ⟨ib, qW⟩ : ∃ b, gK item = b := ⟨_, rfl⟩
 obtain ⟨qb, hqb⟩ : ∃ b, cS qty 1 999 = b := ⟨_, rfl⟩
 obtain ⟨zd, hzd⟩ : ∃ b, (dev == 0) = b := ⟨_, rfl⟩
 obtain ⟨zs, mF⟩ : ∃ b, (seq == 0) = b := ⟨_, rfl⟩
 rw [qW, hqb, hzd, mF] at gT
 have HE := aRp gT
 have D2 := aRp qW
 have Hqb := aRp hqb
 clear gT qW hqb
 rcases hk with rfl | rfl <;> cases ib <;> cases qb <;> cases zd <;> cases zs <;>
  (go_enter Tryz.func22, Tryz.ntmps22; go_wp2_with (first | (go_at_call 54; refine (fC _ (by first | exact hs | exact Nat.zero_le _) _).mono ?_; rintro e w' ⟨rfl, rfl⟩; (first | rw [D2.out] | rw [Hqb.out] | skip)) | (go_at_call 55; refine (bO _ _ _ _).mono ?_; rintro e w' ⟨rfl, rfl⟩; (first | rw [D2.out] | rw [Hqb.out] | skip)) | (go_at_call 45; refine (fN _ _).mono ?_; rintro e w' ⟨rfl, rfl⟩; (first | rw [D2.out] | rw [Hqb.out] | skip))); go_ret; exact ⟨by rw [HE.out]; rfl, bl⟩)
set_option maxHeartbeats 40000000 in
theorem aHU {kind : Int} (hk : kind = 3 ∨ kind = 4 ∨ kind = 5) (item : ByteArray) (qty dev seq : Int) (hs : item.size ≤ 1048576) (w : World) : Calls Tryz.prog 22 #[.agg #[.int .i64 kind, .string item, .int .i64 qty, .int .i64 dev, .int .i64 seq]] w fun e w' => e = .returned (.bool (fT kind item qty dev seq)) ∧ Below w.heap.size w w' := by
 have gT := aIR hk item qty dev seq
 obtain ⟨ib, qW⟩ : ∃ b, gK item = b := ⟨_, rfl⟩
 obtain ⟨q0, X0⟩ : ∃ b, (qty == 0) = b := ⟨_, rfl⟩
 obtain ⟨zd, hzd⟩ : ∃ b, (dev == 0) = b := ⟨_, rfl⟩
 obtain ⟨zs, mF⟩ : ∃ b, (seq == 0) = b := ⟨_, rfl⟩
 rw [qW, X0, hzd, mF] at gT
 have HE := aRp gT
 have D2 := aRp qW
 clear gT qW
 rcases hk with rfl | rfl | rfl <;> cases ib <;> cases q0 <;> cases zd <;> cases zs <;>
  (go_enter Tryz.func22, Tryz.ntmps22; go_wp2_with (first | (go_at_call 54; refine (fC _ (by first | exact hs | exact Nat.zero_le _) _).mono ?_; rintro e w' ⟨rfl, rfl⟩; (first | rw [D2.out] | skip)) | (go_at_call 55; refine (bO _ _ _ _).mono ?_; rintro e w' ⟨rfl, rfl⟩; (first | rw [D2.out] | skip)) | (go_at_call 45; refine (fN _ _).mono ?_; rintro e w' ⟨rfl, rfl⟩; (first | rw [D2.out] | skip))); go_ret; exact ⟨by rw [HE.out]; rfl, bl⟩)
set_option maxHeartbeats 40000000 in
theorem aHT {kind : Int} (hk : kind = 6 ∨ kind = 7 ∨ kind = 8) (item : ByteArray) (qty dev seq : Int) (hs : item.size ≤ 1048576) (w : World) : Calls Tryz.prog 22 #[.agg #[.int .i64 kind, .string item, .int .i64 qty, .int .i64 dev, .int .i64 seq]] w fun e w' => e = .returned (.bool (fT kind item qty dev seq)) ∧ Below w.heap.size w w' := by
 have gT := aIQ hk item qty dev seq
 obtain ⟨z, hz, zL⟩ := zJ item
 obtain ⟨q0, X0⟩ : ∃ b, (qty == 0) = b := ⟨_, rfl⟩
 obtain ⟨zd, hzd⟩ : ∃ b, (dev == 0) = b := ⟨_, rfl⟩
 obtain ⟨zs, mF⟩ : ∃ b, (seq == 0) = b := ⟨_, rfl⟩
 rw [hz, X0, hzd, mF] at gT
 have HE := aRp gT
 clear gT hz
 rcases hk with rfl | rfl | rfl <;> rcases zL with ⟨rfl, rfl⟩ | ⟨rfl, hn1, yO, yN⟩ <;> cases q0 <;> cases zd <;> cases zs <;>
  (go_enter Tryz.func22, Tryz.ntmps22; go_wp2_with (first | (go_at_call 54; refine (fC _ (by first | exact hs | exact Nat.zero_le _) _).mono ?_; rintro e w' ⟨rfl, rfl⟩; (first | skip)) | (go_at_call 55; refine (bO _ _ _ _).mono ?_; rintro e w' ⟨rfl, rfl⟩; (first | skip)) | (go_at_call 45; refine (fN _ _).mono ?_; rintro e w' ⟨rfl, rfl⟩; (first | skip))); go_ret; exact ⟨by rw [HE.out]; rfl, bl⟩)
set_option maxHeartbeats 40000000 in
theorem aHS {kind : Int} (hk : kind = 9) (item : ByteArray) (qty dev seq : Int) (hs : item.size ≤ 1048576) (w : World) : Calls Tryz.prog 22 #[.agg #[.int .i64 kind, .string item, .int .i64 qty, .int .i64 dev, .int .i64 seq]] w fun e w' => e = .returned (.bool (fT kind item qty dev seq)) ∧ Below w.heap.size w w' := by
 have gT := aIP hk item qty dev seq
 obtain ⟨z, hz, zL⟩ := zJ item
 obtain ⟨q0, X0⟩ : ∃ b, (qty == 0) = b := ⟨_, rfl⟩
 obtain ⟨db, N1⟩ : ∃ b, cS dev 0 3 = b := ⟨_, rfl⟩
 obtain ⟨sb, hsb⟩ : ∃ b, cS seq 1 40 = b := ⟨_, rfl⟩
 rw [hz, X0, N1, hsb] at gT
 have HE := aRp gT
 have Hdb := aRp N1
 have Hsb := aRp hsb
 clear gT hz N1 hsb
 rcases hk with rfl <;> rcases aIt dev with rfl | hzd <;> rcases zL with ⟨rfl, rfl⟩ | ⟨rfl, hn1, yO, yN⟩ <;> cases q0 <;> cases db <;> cases sb <;>
  (go_enter Tryz.func22, Tryz.ntmps22; go_wp2_with (first | (go_at_call 54; refine (fC _ (by first | exact hs | exact Nat.zero_le _) _).mono ?_; rintro e w' ⟨rfl, rfl⟩; (first | rw [Hdb.out] | rw [Hsb.out] | skip)) | (go_at_call 55; refine (bO _ _ _ _).mono ?_; rintro e w' ⟨rfl, rfl⟩; (first | rw [Hdb.out] | rw [Hsb.out] | skip)) | (go_at_call 45; refine (fN _ _).mono ?_; rintro e w' ⟨rfl, rfl⟩; (first | rw [Hdb.out] | rw [Hsb.out] | skip))); go_ret; exact ⟨by rw [HE.out]; rfl, bl⟩)
set_option maxHeartbeats 20000000 in
theorem aAn (kind : Int) (item : ByteArray) (qty dev seq : Int) (hs : item.size ≤ 1048576) (w : World) : Calls Tryz.prog 22 #[.agg #[.int .i64 kind, .string item, .int .i64 qty, .int .i64 dev, .int .i64 seq]] w fun e w' => e = .returned (.bool (fT kind item qty dev seq)) ∧ Below w.heap.size w w' := by
 by_cases g1 : kind = 1 ∨ kind = 2
 ·exact aHV g1 item qty dev seq hs w
 by_cases g2 : kind = 3 ∨ kind = 4 ∨ kind = 5
 ·exact aHU g2 item qty dev seq hs w
 by_cases g3 : kind = 6 ∨ kind = 7 ∨ kind = 8
 ·exact aHT g3 item qty dev seq hs w
 by_cases g4 : kind = 9
 ·exact aHS g4 item qty dev seq hs w
 have HE := aRp (aDj (item := item) (qty := qty) (dev := dev) (seq := seq) (kind := kind) (fun e => g1 (by omega)) (fun e => g1 (by omega)) (fun e => g2 (by omega)) (fun e => g2 (by omega)) (fun e => g2 (by omega)) (fun e => g3 (by omega)) (fun e => g3 (by omega)) (fun e => g3 (by omega)) (fun e => g4 (by omega)))
 have b1 : (kind == 1) = false := by rw [beq_eq_false_iff_ne]; exact fun e => g1 (by omega)
 have b2 : (kind == 2) = false := by rw [beq_eq_false_iff_ne]; exact fun e => g1 (by omega)
 have b3 : (kind == 3) = false := by rw [beq_eq_false_iff_ne]; exact fun e => g2 (by omega)
 have b4 : (kind == 4) = false := by rw [beq_eq_false_iff_ne]; exact fun e => g2 (by omega)
 have b5 : (kind == 5) = false := by rw [beq_eq_false_iff_ne]; exact fun e => g2 (by omega)
 have b6 : (kind == 6) = false := by rw [beq_eq_false_iff_ne]; exact fun e => g3 (by omega)
 have b7 : (kind == 7) = false := by rw [beq_eq_false_iff_ne]; exact fun e => g3 (by omega)
 have b8 : (kind == 8) = false := by rw [beq_eq_false_iff_ne]; exact fun e => g3 (by omega)
 have b9 : (kind == 9) = false := by rw [beq_eq_false_iff_ne]; exact fun e => g4 (by omega)
 clear g1 g2 g3 g4
 obtain ⟨zd, hzd⟩ : ∃ b, (dev == 0) = b := ⟨_, rfl⟩
 obtain ⟨zs, mF⟩ : ∃ b, (seq == 0) = b := ⟨_, rfl⟩
 cases zd <;> cases zs <;>
  (go_enter Tryz.func22, Tryz.ntmps22; go_wp2; go_ret; exact ⟨by rw [HE.out]; rfl, bl⟩)
end Go.Proofs.YthkagbnpcjidfaaGreatDoor
namespace Go.Proofs.YthkagbnpcjidfaaGreatDoor
set_option maxRecDepth 100000
end Go.Proofs.YthkagbnpcjidfaaGreatDoor
