/- Walks and mathematics that several claims share, part 18. -/
import Derived.Test.YthkagbnpcjidfaaGreatDoorGy3
import Derived.Deep.Cut
import Derived.Test.YthkagbnpcjidfaaGreatDoorGyA
namespace Go.Proofs.YthkagbnpcjidfaaGreatDoor
set_option maxHeartbeats 40000000
set_option maxRecDepth 100000
open Go.RowKit
set_option linter.unusedVariables false
set_option linter.unusedSimpArgs false
set_option linter.unusedVariables false
set_option linter.unusedSimpArgs false

def eN (kind : Int) (item : ByteArray) (qty dev seq : Int) : Bool :=
 if kind = 1 ∨ kind = 2 then iE item && (dD qty 1 999 && decide (dev = 0 ∧ seq = 0))
 else if kind = 3 ∨ kind = 4 ∨ kind = 5 then iE item && decide (qty = 0 ∧ dev = 0 ∧ seq = 0)
 else if kind = 6 ∨ kind = 7 ∨ kind = 8 then decide (item = ⟨#[]⟩ ∧ qty = 0 ∧ dev = 0 ∧ seq = 0)
 else if kind = 9 then decide (item = ⟨#[]⟩ ∧ qty = 0) && (dD dev 0 3 && dD seq 1 40)
 else false
theorem aLX {s : ByteArray} (h : ¬ s = ⟨#[]⟩) : s.toList ≠ [] := fun e => h (by
 rw [Lib.toList_data] at e
 exact ByteArray.ext (Array.toList_eq_nil_iff.1 e))
theorem O1 (dev : Int) (w : World) : Calls Tryz.prog 53 #[.int .i64 dev] w fun e w' => e = .returned (.bool (dD dev 0 3)) ∧ w = w' := by
 go_enter Tryz.func53, Tryz.ntmps53
 go_wp2_with fail
 refine (cQ _ _ _ _).mono ?_
 rintro e w' ⟨rfl, rfl⟩
 go_wp2
 go_ret
 exact ⟨rfl, rfl⟩
theorem F2 (s : ByteArray) : ∃ z, decide (s = ⟨#[]⟩) = z ∧ ((z = true ∧ s = ⟨#[]⟩) ∨ (z = false ∧ s.toList ≠ [] ∧ s.toList.isEmpty = false ∧ (s.toList == []) = false)) := by
 by_cases h : s = ⟨#[]⟩
 ·exact ⟨true, decide_eq_true h, .inl ⟨rfl, h⟩⟩
 ·have h1 := aLX h
  exact ⟨false, decide_eq_false h, .inr ⟨rfl, h1, by rw [List.isEmpty_eq_false_iff]; exact h1, by rw [beq_eq_false_iff_ne]; exact h1⟩⟩
theorem aIH {kind : Int} (hk : kind = 1 ∨ kind = 2) (item : ByteArray) (qty dev seq : Int) : eN kind item qty dev seq = (iE item && (dD qty 1 999 && ((dev == 0) && (seq == 0)))) := by
 rcases hk with rfl | rfl <;> by_cases h1 : item = ⟨#[]⟩ <;> by_cases h2 : qty = 0 <;> by_cases h3 : dev = 0 <;> by_cases h4 : seq = 0 <;> simp [eN, h1, h2, h3, h4]
theorem aIG {kind : Int} (hk : kind = 3 ∨ kind = 4 ∨ kind = 5) (item : ByteArray) (qty dev seq : Int) : eN kind item qty dev seq = (iE item && ((qty == 0) && ((dev == 0) && (seq == 0)))) := by
 rcases hk with rfl | rfl | rfl <;> by_cases h1 : item = ⟨#[]⟩ <;> by_cases h2 : qty = 0 <;> by_cases h3 : dev = 0 <;> by_cases h4 : seq = 0 <;> simp [eN, h1, h2, h3, h4]
theorem aIF {kind : Int} (hk : kind = 6 ∨ kind = 7 ∨ kind = 8) (item : ByteArray) (qty dev seq : Int) : eN kind item qty dev seq = (decide (item = ⟨#[]⟩) && ((qty == 0) && ((dev == 0) && (seq == 0)))) := by
 rcases hk with rfl | rfl | rfl <;> by_cases h1 : item = ⟨#[]⟩ <;> by_cases h2 : qty = 0 <;> by_cases h3 : dev = 0 <;> by_cases h4 : seq = 0 <;> simp [eN, h1, h2, h3, h4]
theorem aIE {kind : Int} (hk : kind = 9) (item : ByteArray) (qty dev seq : Int) : eN kind item qty dev seq = ((decide (item = ⟨#[]⟩) && (qty == 0)) && (dD dev 0 3 && dD seq 1 40)) := by
 rcases hk with rfl <;> by_cases h1 : item = ⟨#[]⟩ <;> by_cases h2 : qty = 0 <;> by_cases h3 : dev = 0 <;> by_cases h4 : seq = 0 <;> simp [eN, h1, h2, h3, h4]
theorem aDh {kind : Int} {item : ByteArray} {qty dev seq : Int} (h1 : kind ≠ 1) (h2 : kind ≠ 2) (h3 : kind ≠ 3) (h4 : kind ≠ 4) (h5 : kind ≠ 5) (h6 : kind ≠ 6) (h7 : kind ≠ 7) (h8 : kind ≠ 8) (h9 : kind ≠ 9) : eN kind item qty dev seq = false := by
 unfold eN
 rw [if_neg (by omega), if_neg (by omega), if_neg (by omega), if_neg h9]
theorem aIt {kind : Int} (hk : kind = 1 ∨ kind = 2) (item : ByteArray) (qty dev seq : Int) (w : World) : Calls Tryz.prog 21 #[.agg #[.int .i64 kind, .string item, .int .i64 qty, .int .i64 dev, .int .i64 seq]] w fun e w' => e = .returned (.bool (eN kind item qty dev seq)) ∧ Below w.heap.size w w' := by
 have eX := aIH hk item qty dev seq
 obtain ⟨ib, qJ⟩ : ∃ b, iE item = b := ⟨_, rfl⟩
 obtain ⟨qb, hqb⟩ : ∃ b, dD qty 1 999 = b := ⟨_, rfl⟩
 obtain ⟨zd, hzd⟩ : ∃ b, (dev == 0) = b := ⟨_, rfl⟩
 obtain ⟨zs, oP⟩ : ∃ b, (seq == 0) = b := ⟨_, rfl⟩
 rw [qJ, hqb, hzd, oP] at eX
 have HE := aRA eX
 have L3 := aRA qJ
 have Hqb := aRA hqb
 clear eX qJ hqb
 rcases hk with rfl | rfl <;> cases ib <;> cases qb <;> cases zd <;> cases zs <;>
  (go_enter Tryz.func21, Tryz.ntmps21; go_wp2_with (first | (go_at_call 51; refine (sK _ _).mono ?_; rintro e w' ⟨rfl, rfl⟩; (first | rw [L3.out] | rw [Hqb.out] | skip)) | (go_at_call 52; refine (cQ _ _ _ _).mono ?_; rintro e w' ⟨rfl, rfl⟩; (first | rw [L3.out] | rw [Hqb.out] | skip)) | (go_at_call 53; refine (O1 _ _).mono ?_; rintro e w' ⟨rfl, rfl⟩; (first | rw [L3.out] | rw [Hqb.out] | skip))); go_ret; exact ⟨by rw [HE.out]; rfl, bl⟩)
theorem aIs {kind : Int} (hk : kind = 3 ∨ kind = 4 ∨ kind = 5) (item : ByteArray) (qty dev seq : Int) (w : World) : Calls Tryz.prog 21 #[.agg #[.int .i64 kind, .string item, .int .i64 qty, .int .i64 dev, .int .i64 seq]] w fun e w' => e = .returned (.bool (eN kind item qty dev seq)) ∧ Below w.heap.size w w' := by
 have eX := aIG hk item qty dev seq
 obtain ⟨ib, qJ⟩ : ∃ b, iE item = b := ⟨_, rfl⟩
 obtain ⟨q0, Y2⟩ : ∃ b, (qty == 0) = b := ⟨_, rfl⟩
 obtain ⟨zd, hzd⟩ : ∃ b, (dev == 0) = b := ⟨_, rfl⟩
 obtain ⟨zs, oP⟩ : ∃ b, (seq == 0) = b := ⟨_, rfl⟩
 rw [qJ, Y2, hzd, oP] at eX
 have HE := aRA eX
 have L3 := aRA qJ
 clear eX qJ
 rcases hk with rfl | rfl | rfl <;> cases ib <;> cases q0 <;> cases zd <;> cases zs <;>
  (go_enter Tryz.func21, Tryz.ntmps21; go_wp2_with (first | (go_at_call 51; refine (sK _ _).mono ?_; rintro e w' ⟨rfl, rfl⟩; (first | rw [L3.out] | skip)) | (go_at_call 52; refine (cQ _ _ _ _).mono ?_; rintro e w' ⟨rfl, rfl⟩; (first | rw [L3.out] | skip)) | (go_at_call 53; refine (O1 _ _).mono ?_; rintro e w' ⟨rfl, rfl⟩; (first | rw [L3.out] | skip))); go_ret; exact ⟨by rw [HE.out]; rfl, bl⟩)
theorem aIr {kind : Int} (hk : kind = 6 ∨ kind = 7 ∨ kind = 8) (item : ByteArray) (qty dev seq : Int) (w : World) : Calls Tryz.prog 21 #[.agg #[.int .i64 kind, .string item, .int .i64 qty, .int .i64 dev, .int .i64 seq]] w fun e w' => e = .returned (.bool (eN kind item qty dev seq)) ∧ Below w.heap.size w w' := by
 have eX := aIF hk item qty dev seq
 obtain ⟨z, hz, F3⟩ := F2 item
 obtain ⟨q0, Y2⟩ : ∃ b, (qty == 0) = b := ⟨_, rfl⟩
 obtain ⟨zd, hzd⟩ : ∃ b, (dev == 0) = b := ⟨_, rfl⟩
 obtain ⟨zs, oP⟩ : ∃ b, (seq == 0) = b := ⟨_, rfl⟩
 rw [hz, Y2, hzd, oP] at eX
 have HE := aRA eX
 clear eX hz
 rcases hk with rfl | rfl | rfl <;> rcases F3 with ⟨rfl, rfl⟩ | ⟨rfl, hn1, D2, hn3⟩ <;> cases q0 <;> cases zd <;> cases zs <;>
  (go_enter Tryz.func21, Tryz.ntmps21; go_wp2_with (first | (go_at_call 51; refine (sK _ _).mono ?_; rintro e w' ⟨rfl, rfl⟩; (first | skip)) | (go_at_call 52; refine (cQ _ _ _ _).mono ?_; rintro e w' ⟨rfl, rfl⟩; (first | skip)) | (go_at_call 53; refine (O1 _ _).mono ?_; rintro e w' ⟨rfl, rfl⟩; (first | skip))); go_ret; exact ⟨by rw [HE.out]; rfl, bl⟩)
theorem aIq {kind : Int} (hk : kind = 9) (item : ByteArray) (qty dev seq : Int) (w : World) : Calls Tryz.prog 21 #[.agg #[.int .i64 kind, .string item, .int .i64 qty, .int .i64 dev, .int .i64 seq]] w fun e w' => e = .returned (.bool (eN kind item qty dev seq)) ∧ Below w.heap.size w w' := by
 have eX := aIE hk item qty dev seq
 obtain ⟨z, hz, F3⟩ := F2 item
 obtain ⟨q0, Y2⟩ : ∃ b, (qty == 0) = b := ⟨_, rfl⟩
 obtain ⟨db, S2⟩ : ∃ b, dD dev 0 3 = b := ⟨_, rfl⟩
 obtain ⟨sb, hsb⟩ : ∃ b, dD seq 1 40 = b := ⟨_, rfl⟩
 rw [hz, Y2, S2, hsb] at eX
 have HE := aRA eX
 have Hdb := aRA S2
 have Hsb := aRA hsb
 clear eX hz S2 hsb
 rcases hk with rfl <;> rcases F3 with ⟨rfl, rfl⟩ | ⟨rfl, hn1, D2, hn3⟩ <;> cases q0 <;> cases db <;> cases sb <;>
  (go_enter Tryz.func21, Tryz.ntmps21; go_wp2_with (first | (go_at_call 51; refine (sK _ _).mono ?_; rintro e w' ⟨rfl, rfl⟩; (first | rw [Hdb.out] | rw [Hsb.out] | skip)) | (go_at_call 52; refine (cQ _ _ _ _).mono ?_; rintro e w' ⟨rfl, rfl⟩; (first | rw [Hdb.out] | rw [Hsb.out] | skip)) | (go_at_call 53; refine (O1 _ _).mono ?_; rintro e w' ⟨rfl, rfl⟩; (first | rw [Hdb.out] | rw [Hsb.out] | skip))); go_ret; exact ⟨by rw [HE.out]; rfl, bl⟩)
theorem aFW (kind : Int) (item : ByteArray) (qty dev seq : Int) (w : World) : Calls Tryz.prog 21 #[.agg #[.int .i64 kind, .string item, .int .i64 qty, .int .i64 dev, .int .i64 seq]] w fun e w' => e = .returned (.bool (eN kind item qty dev seq)) ∧ Below w.heap.size w w' := by
 by_cases g1 : kind = 1 ∨ kind = 2
 ·exact aIt g1 item qty dev seq w
 by_cases g2 : kind = 3 ∨ kind = 4 ∨ kind = 5
 ·exact aIs g2 item qty dev seq w
 by_cases g3 : kind = 6 ∨ kind = 7 ∨ kind = 8
 ·exact aIr g3 item qty dev seq w
 by_cases g4 : kind = 9
 ·exact aIq g4 item qty dev seq w
 have HE := aRA (aDh (item := item) (qty := qty) (dev := dev) (seq := seq) (kind := kind) (fun e => g1 (by omega)) (fun e => g1 (by omega)) (fun e => g2 (by omega)) (fun e => g2 (by omega)) (fun e => g2 (by omega)) (fun e => g3 (by omega)) (fun e => g3 (by omega)) (fun e => g3 (by omega)) (fun e => g4 (by omega)))
 have b1 : (kind == 1) = false := by rw [beq_eq_false_iff_ne]; exact fun e => g1 (by omega)
 have b2 : (kind == 2) = false := by rw [beq_eq_false_iff_ne]; exact fun e => g1 (by omega)
 have b3 : (kind == 3) = false := by rw [beq_eq_false_iff_ne]; exact fun e => g2 (by omega)
 have b4 : (kind == 4) = false := by rw [beq_eq_false_iff_ne]; exact fun e => g2 (by omega)
 have b5 : (kind == 5) = false := by rw [beq_eq_false_iff_ne]; exact fun e => g2 (by omega)
 have b6 : (kind == 6) = false := by rw [beq_eq_false_iff_ne]; exact fun e => g3 (by omega)
 have b7 : (kind == 7) = false := by rw [beq_eq_false_iff_ne]; exact fun e => g3 (by omega)
 have b8 : (kind == 8) = false := by rw [beq_eq_false_iff_ne]; exact fun e => g3 (by omega)
 have b9 : (kind == 9) = false := by rw [beq_eq_false_iff_ne]; exact fun e => g4 (by omega)
 clear g1 g2 g3 g4
 go_enter Tryz.func21, Tryz.ntmps21
 go_wp2
 go_ret
 exact ⟨by rw [HE.out]; rfl, bl⟩
end Go.Proofs.YthkagbnpcjidfaaGreatDoor

namespace Go.Proofs.YthkagbnpcjidfaaGreatDoor
set_option maxHeartbeats 40000000
set_option maxRecDepth 100000
end Go.Proofs.YthkagbnpcjidfaaGreatDoor

namespace Go.Proofs.YthkagbnpcjidfaaGreatDoor
set_option maxHeartbeats 40000000
set_option maxRecDepth 100000
open Go.RowKit
set_option linter.unusedVariables false
set_option linter.unusedSimpArgs false

theorem aIj (x : Int) : x = 0 ∨ (x == 0) = false := by
 by_cases h : x = 0
 ·exact .inl h
 ·exact .inr (by rw [beq_eq_false_iff_ne]; exact h)
theorem aHE {kind : Int} (hk : kind = 1 ∨ kind = 2) (item : ByteArray) (qty dev seq : Int) (hs : item.size ≤ 1048576) (w : World) : Calls Tryz.prog 22 #[.agg #[.int .i64 kind, .string item, .int .i64 qty, .int .i64 dev, .int .i64 seq]] w fun e w' => e = .returned (.bool (eN kind item qty dev seq)) ∧ Below w.heap.size w w' := by
 have eX := aIH hk item qty dev seq
 obtain ⟨ib, qJ⟩ : ∃ b, iE item = b := ⟨_, rfl⟩
 obtain ⟨qb, hqb⟩ : ∃ b, dD qty 1 999 = b := ⟨_, rfl⟩
 obtain ⟨zd, hzd⟩ : ∃ b, (dev == 0) = b := ⟨_, rfl⟩
 obtain ⟨zs, oP⟩ : ∃ b, (seq == 0) = b := ⟨_, rfl⟩
 rw [qJ, hqb, hzd, oP] at eX
 have HE := aRA eX
 have L3 := aRA qJ
 have Hqb := aRA hqb
 clear eX qJ hqb
 rcases hk with rfl | rfl <;> cases ib <;> cases qb <;> cases zd <;> cases zs <;>
  (go_enter Tryz.func22, Tryz.ntmps22; go_wp2_with (first | (go_at_call 54; refine (gF _ (by first | exact hs | exact Nat.zero_le _) _).mono ?_; rintro e w' ⟨rfl, rfl⟩; (first | rw [L3.out] | rw [Hqb.out] | skip)) | (go_at_call 55; refine (bU _ _ _ _).mono ?_; rintro e w' ⟨rfl, rfl⟩; (first | rw [L3.out] | rw [Hqb.out] | skip)) | (go_at_call 45; refine (gQ _ _).mono ?_; rintro e w' ⟨rfl, rfl⟩; (first | rw [L3.out] | rw [Hqb.out] | skip))); go_ret; exact ⟨by rw [HE.out]; rfl, bl⟩)
theorem aHD {kind : Int} (hk : kind = 3 ∨ kind = 4 ∨ kind = 5) (item : ByteArray) (qty dev seq : Int) (hs : item.size ≤ 1048576) (w : World) : Calls Tryz.prog 22 #[.agg #[.int .i64 kind, .string item, .int .i64 qty, .int .i64 dev, .int .i64 seq]] w fun e w' => e = .returned (.bool (eN kind item qty dev seq)) ∧ Below w.heap.size w w' := by
 have eX := aIG hk item qty dev seq
 obtain ⟨ib, qJ⟩ : ∃ b, iE item = b := ⟨_, rfl⟩
 obtain ⟨q0, Y2⟩ : ∃ b, (qty == 0) = b := ⟨_, rfl⟩
 obtain ⟨zd, hzd⟩ : ∃ b, (dev == 0) = b := ⟨_, rfl⟩
 obtain ⟨zs, oP⟩ : ∃ b, (seq == 0) = b := ⟨_, rfl⟩
 rw [qJ, Y2, hzd, oP] at eX
 have HE := aRA eX
 have L3 := aRA qJ
 clear eX qJ
 rcases hk with rfl | rfl | rfl <;> cases ib <;> cases q0 <;> cases zd <;> cases zs <;>
  (go_enter Tryz.func22, Tryz.ntmps22; go_wp2_with (first | (go_at_call 54; refine (gF _ (by first | exact hs | exact Nat.zero_le _) _).mono ?_; rintro e w' ⟨rfl, rfl⟩; (first | rw [L3.out] | skip)) | (go_at_call 55; refine (bU _ _ _ _).mono ?_; rintro e w' ⟨rfl, rfl⟩; (first | rw [L3.out] | skip)) | (go_at_call 45; refine (gQ _ _).mono ?_; rintro e w' ⟨rfl, rfl⟩; (first | rw [L3.out] | skip))); go_ret; exact ⟨by rw [HE.out]; rfl, bl⟩)
theorem aHC {kind : Int} (hk : kind = 6 ∨ kind = 7 ∨ kind = 8) (item : ByteArray) (qty dev seq : Int) (hs : item.size ≤ 1048576) (w : World) : Calls Tryz.prog 22 #[.agg #[.int .i64 kind, .string item, .int .i64 qty, .int .i64 dev, .int .i64 seq]] w fun e w' => e = .returned (.bool (eN kind item qty dev seq)) ∧ Below w.heap.size w w' := by
 have eX := aIF hk item qty dev seq
 obtain ⟨z, hz, F3⟩ := F2 item
 obtain ⟨q0, Y2⟩ : ∃ b, (qty == 0) = b := ⟨_, rfl⟩
 obtain ⟨zd, hzd⟩ : ∃ b, (dev == 0) = b := ⟨_, rfl⟩
 obtain ⟨zs, oP⟩ : ∃ b, (seq == 0) = b := ⟨_, rfl⟩
 rw [hz, Y2, hzd, oP] at eX
 have HE := aRA eX
 clear eX hz
 rcases hk with rfl | rfl | rfl <;> rcases F3 with ⟨rfl, rfl⟩ | ⟨rfl, hn1, D2, hn3⟩ <;> cases q0 <;> cases zd <;> cases zs <;>
  (go_enter Tryz.func22, Tryz.ntmps22; go_wp2_with (first | (go_at_call 54; refine (gF _ (by first | exact hs | exact Nat.zero_le _) _).mono ?_; rintro e w' ⟨rfl, rfl⟩; (first | skip)) | (go_at_call 55; refine (bU _ _ _ _).mono ?_; rintro e w' ⟨rfl, rfl⟩; (first | skip)) | (go_at_call 45; refine (gQ _ _).mono ?_; rintro e w' ⟨rfl, rfl⟩; (first | skip))); go_ret; exact ⟨by rw [HE.out]; rfl, bl⟩)
theorem aHB {kind : Int} (hk : kind = 9) (item : ByteArray) (qty dev seq : Int) (hs : item.size ≤ 1048576) (w : World) : Calls Tryz.prog 22 #[.agg #[.int .i64 kind, .string item, .int .i64 qty, .int .i64 dev, .int .i64 seq]] w fun e w' => e = .returned (.bool (eN kind item qty dev seq)) ∧ Below w.heap.size w w' := by
 have eX := aIE hk item qty dev seq
 obtain ⟨z, hz, F3⟩ := F2 item
 obtain ⟨q0, Y2⟩ : ∃ b, (qty == 0) = b := ⟨_, rfl⟩
 obtain ⟨db, S2⟩ : ∃ b, dD dev 0 3 = b := ⟨_, rfl⟩
 obtain ⟨sb, hsb⟩ : ∃ b, dD seq 1 40 = b := ⟨_, rfl⟩
 rw [hz, Y2, S2, hsb] at eX
 have HE := aRA eX
 have Hdb := aRA S2
 have Hsb := aRA hsb
 clear eX hz S2 hsb
 rcases hk with rfl <;> rcases aIj dev with rfl | hzd <;> rcases F3 with ⟨rfl, rfl⟩ | ⟨rfl, hn1, D2, hn3⟩ <;> cases q0 <;> cases db <;> cases sb <;>
  (go_enter Tryz.func22, Tryz.ntmps22; go_wp2_with (first | (go_at_call 54; refine (gF _ (by first | exact hs | exact Nat.zero_le _) _).mono ?_; rintro e w' ⟨rfl, rfl⟩; (first | rw [Hdb.out] | rw [Hsb.out] | skip)) | (go_at_call 55; refine (bU _ _ _ _).mono ?_; rintro e w' ⟨rfl, rfl⟩; (first | rw [Hdb.out] | rw [Hsb.out] | skip)) | (go_at_call 45; refine (gQ _ _).mono ?_; rintro e w' ⟨rfl, rfl⟩; (first | rw [Hdb.out] | rw [Hsb.out] | skip))); go_ret; exact ⟨by rw [HE.out]; rfl, bl⟩)
theorem aLx (kind : Int) (item : ByteArray) (qty dev seq : Int) (hs : item.size ≤ 1048576) (w : World) : Calls Tryz.prog 22 #[.agg #[.int .i64 kind, .string item, .int .i64 qty, .int .i64 dev, .int .i64 seq]] w fun e w' => e = .returned (.bool (eN kind item qty dev seq)) ∧ Below w.heap.size w w' := by
 by_cases g1 : kind = 1 ∨ kind = 2
 ·exact aHE g1 item qty dev seq hs w
 by_cases g2 : kind = 3 ∨ kind = 4 ∨ kind = 5
 ·exact aHD g2 item qty dev seq hs w
 by_cases g3 : kind = 6 ∨ kind = 7 ∨ kind = 8
 ·exact aHC g3 item qty dev seq hs w
 by_cases g4 : kind = 9
 ·exact aHB g4 item qty dev seq hs w
 have HE := aRA (aDh (item := item) (qty := qty) (dev := dev) (seq := seq) (kind := kind) (fun e => g1 (by omega)) (fun e => g1 (by omega)) (fun e => g2 (by omega)) (fun e => g2 (by omega)) (fun e => g2 (by omega)) (fun e => g3 (by omega)) (fun e => g3 (by omega)) (fun e => g3 (by omega)) (fun e => g4 (by omega)))
 have b1 : (kind == 1) = false := by rw [beq_eq_false_iff_ne]; exact fun e => g1 (by omega)
 have b2 : (kind == 2) = false := by rw [beq_eq_false_iff_ne]; exact fun e => g1 (by omega)
 have b3 : (kind == 3) = false := by rw [beq_eq_false_iff_ne]; exact fun e => g2 (by omega)
 have b4 : (kind == 4) = false := by rw [beq_eq_false_iff_ne]; exact fun e => g2 (by omega)
 have b5 : (kind == 5) = false := by rw [beq_eq_false_iff_ne]; exact fun e => g2 (by omega)
 have b6 : (kind == 6) = false := by rw [beq_eq_false_iff_ne]; exact fun e => g3 (by omega)
 have b7 : (kind == 7) = false := by rw [beq_eq_false_iff_ne]; exact fun e => g3 (by omega)
 have b8 : (kind == 8) = false := by rw [beq_eq_false_iff_ne]; exact fun e => g3 (by omega)
 have b9 : (kind == 9) = false := by rw [beq_eq_false_iff_ne]; exact fun e => g4 (by omega)
 clear g1 g2 g3 g4
 obtain ⟨zd, hzd⟩ : ∃ b, (dev == 0) = b := ⟨_, rfl⟩
 obtain ⟨zs, oP⟩ : ∃ b, (seq == 0) = b := ⟨_, rfl⟩
 cases zd <;> cases zs <;>
  (go_enter Tryz.func22, Tryz.ntmps22; go_wp2; go_ret; exact ⟨by rw [HE.out]; rfl, bl⟩)
end Go.Proofs.YthkagbnpcjidfaaGreatDoor

namespace Go.Proofs.YthkagbnpcjidfaaGreatDoor
set_option maxHeartbeats 40000000
set_option maxRecDepth 100000
end Go.Proofs.YthkagbnpcjidfaaGreatDoor
