/- Walks and mathematics that several claims share, part 21. -/
import Derived.Test.YthkagbnpcjidfaaGreatDoorGu3
import Derived.Deep.Cut
namespace Go.Proofs.YthkagbnpcjidfaaGreatDoor
set_option maxRecDepth 100000
open Go.RowKit
set_option linter.unusedVariables false
set_option linter.unusedSimpArgs false
def eB (kind : Int) (item : ByteArray) (qty dev seq : Int) : Bool :=
 if kind = 1 ∨ kind = 2 then fJ item && (cV qty 1 999 && decide (dev = 0 ∧ seq = 0))
 else if kind = 3 ∨ kind = 4 ∨ kind = 5 then fJ item && decide (qty = 0 ∧ dev = 0 ∧ seq = 0)
 else if kind = 6 ∨ kind = 7 ∨ kind = 8 then decide (item = ⟨#[]⟩ ∧ qty = 0 ∧ dev = 0 ∧ seq = 0)
 else if kind = 9 then decide (item = ⟨#[]⟩ ∧ qty = 0) && (cV dev 0 3 && cV seq 1 40)
 else false
theorem aKh {s : ByteArray} (h : ¬ s = ⟨#[]⟩) : s.toList ≠ [] := fun e => h (by
 rw [Lib.toList_data] at e
 exact ByteArray.ext (Array.toList_eq_nil_iff.1 e))
theorem B3 (dev : Int) (w : World) : Calls Tryz.prog 53 #[.int .i64 dev] w fun e w' => e = .returned (.bool (cV dev 0 3)) ∧ w = w' := by
 go_enter Tryz.func53, Tryz.ntmps53
 go_wp2_with fail
 refine (cH _ _ _ _).mono ?_
 rintro e w' ⟨rfl, rfl⟩
 go_wp2
 go_ret
 exact ⟨rfl, rfl⟩
theorem xG (s : ByteArray) : ∃ z, decide (s = ⟨#[]⟩) = z ∧ ((z = true ∧ s = ⟨#[]⟩) ∨ (z = false ∧ s.toList ≠ [] ∧ s.toList.isEmpty = false ∧ (s.toList == []) = false)) := by
 by_cases h : s = ⟨#[]⟩
 ·exact ⟨true, decide_eq_true h, .inl ⟨rfl, h⟩⟩
 ·have h1 := aKh h
  exact ⟨false, decide_eq_false h, .inr ⟨rfl, h1, by rw [List.isEmpty_eq_false_iff]; exact h1, by rw [beq_eq_false_iff_ne]; exact h1⟩⟩
theorem aHg {kind : Int} (hk : kind = 1 ∨ kind = 2) (item : ByteArray) (qty dev seq : Int) : eB kind item qty dev seq = (fJ item && (cV qty 1 999 && ((dev == 0) && (seq == 0)))) := by
 rcases hk with rfl | rfl <;> by_cases h1 : item = ⟨#[]⟩ <;> by_cases h2 : qty = 0 <;> by_cases h3 : dev = 0 <;> by_cases h4 : seq = 0 <;> simp [eB, h1, h2, h3, h4]
theorem aHf {kind : Int} (hk : kind = 3 ∨ kind = 4 ∨ kind = 5) (item : ByteArray) (qty dev seq : Int) : eB kind item qty dev seq = (fJ item && ((qty == 0) && ((dev == 0) && (seq == 0)))) := by
 rcases hk with rfl | rfl | rfl <;> by_cases h1 : item = ⟨#[]⟩ <;> by_cases h2 : qty = 0 <;> by_cases h3 : dev = 0 <;> by_cases h4 : seq = 0 <;> simp [eB, h1, h2, h3, h4]
theorem aHe {kind : Int} (hk : kind = 6 ∨ kind = 7 ∨ kind = 8) (item : ByteArray) (qty dev seq : Int) : eB kind item qty dev seq = (decide (item = ⟨#[]⟩) && ((qty == 0) && ((dev == 0) && (seq == 0)))) := by
 rcases hk with rfl | rfl | rfl <;> by_cases h1 : item = ⟨#[]⟩ <;> by_cases h2 : qty = 0 <;> by_cases h3 : dev = 0 <;> by_cases h4 : seq = 0 <;> simp [eB, h1, h2, h3, h4]
theorem aHd {kind : Int} (hk : kind = 9) (item : ByteArray) (qty dev seq : Int) : eB kind item qty dev seq = ((decide (item = ⟨#[]⟩) && (qty == 0)) && (cV dev 0 3 && cV seq 1 40)) := by
 rcases hk with rfl <;> by_cases h1 : item = ⟨#[]⟩ <;> by_cases h2 : qty = 0 <;> by_cases h3 : dev = 0 <;> by_cases h4 : seq = 0 <;> simp [eB, h1, h2, h3, h4]
theorem aBW {kind : Int} {item : ByteArray} {qty dev seq : Int} (h1 : kind ≠ 1) (h2 : kind ≠ 2) (h3 : kind ≠ 3) (h4 : kind ≠ 4) (h5 : kind ≠ 5) (h6 : kind ≠ 6) (h7 : kind ≠ 7) (h8 : kind ≠ 8) (h9 : kind ≠ 9) : eB kind item qty dev seq = false := by
 unfold eB
 rw [if_neg (by omega), if_neg (by omega), if_neg (by omega), if_neg h9]
set_option maxHeartbeats 40000000 in
theorem aG2 {kind : Int} (hk : kind = 1 ∨ kind = 2) (item : ByteArray) (qty dev seq : Int) (w : World) : Calls Tryz.prog 21 #[.agg #[.int .i64 kind, .string item, .int .i64 qty, .int .i64 dev, .int .i64 seq]] w fun e w' => e = .returned (.bool (eB kind item qty dev seq)) ∧ Below w.heap.size w w' := by
 have gM := aHg hk item qty dev seq
 obtain ⟨ib, rV⟩ : ∃ b, fJ item = b := ⟨_, rfl⟩
 obtain ⟨qb, yM⟩ : ∃ b, cV qty 1 999 = b := ⟨_, rfl⟩
 obtain ⟨zd, hzd⟩ : ∃ b, (dev == 0) = b := ⟨_, rfl⟩
 obtain ⟨zs, lW⟩ : ∃ b, (seq == 0) = b := ⟨_, rfl⟩
 rw [rV, yM, hzd, lW] at gM
 have HE := aPo gM
 have zE := aPo rV
 have Hqb := aPo yM
 clear gM rV yM
 rcases hk with rfl | rfl <;> cases ib <;> cases qb <;> cases zd <;> cases zs <;>
  (go_enter Tryz.func21, Tryz.ntmps21; go_wp2_with (first | (go_at_call 51; refine (pL _ _).mono ?_; rintro e w' ⟨rfl, rfl⟩; (first | rw [zE.out] | rw [Hqb.out] | skip)) | (go_at_call 52; refine (cH _ _ _ _).mono ?_; rintro e w' ⟨rfl, rfl⟩; (first | rw [zE.out] | rw [Hqb.out] | skip)) | (go_at_call 53; refine (B3 _ _).mono ?_; rintro e w' ⟨rfl, rfl⟩; (first | rw [zE.out] | rw [Hqb.out] | skip))); go_ret; exact ⟨by rw [HE.out]; rfl, bl⟩)
set_option maxHeartbeats 40000000 in
theorem aG1 {kind : Int} (hk : kind = 3 ∨ kind = 4 ∨ kind = 5) (item : ByteArray) (qty dev seq : Int) (w : World) : Calls Tryz.prog 21 #[.agg #[.int .i64 kind, .string item, .int .i64 qty, .int .i64 dev, .int .i64 seq]] w fun e w' => e = .returned (.bool (eB kind item qty dev seq)) ∧ Below w.heap.size w w' := by
 have gM := aHf hk item qty dev seq
 obtain ⟨ib, rV⟩ : ∃ b, fJ item = b := ⟨_, rfl⟩
 obtain ⟨q0, N2⟩ : ∃ b, (qty == 0) = b := ⟨_, rfl⟩
 obtain ⟨zd, hzd⟩ : ∃ b, (dev == 0) = b := ⟨_, rfl⟩
 obtain ⟨zs, lW⟩ : ∃ b, (seq == 0) = b := ⟨_, rfl⟩
 rw [rV, N2, hzd, lW] at gM
 have HE := aPo gM
 have zE := aPo rV
 clear gM rV
 rcases hk with rfl | rfl | rfl <;> cases ib <;> cases q0 <;> cases zd <;> cases zs <;>
  (go_enter Tryz.func21, Tryz.ntmps21; go_wp2_with (first | (go_at_call 51; refine (pL _ _).mono ?_; rintro e w' ⟨rfl, rfl⟩; (first | rw [zE.out] | skip)) | (go_at_call 52; refine (cH _ _ _ _).mono ?_; rintro e w' ⟨rfl, rfl⟩; (first | rw [zE.out] | skip)) | (go_at_call 53; refine (B3 _ _).mono ?_; rintro e w' ⟨rfl, rfl⟩; (first | rw [zE.out] | skip))); go_ret; exact ⟨by rw [HE.out]; rfl, bl⟩)
set_option maxHeartbeats 40000000 in
theorem aG0 {kind : Int} (hk : kind = 6 ∨ kind = 7 ∨ kind = 8) (item : ByteArray) (qty dev seq : Int) (w : World) : Calls Tryz.prog 21 #[.agg #[.int .i64 kind, .string item, .int .i64 qty, .int .i64 dev, .int .i64 seq]] w fun e w' => e = .returned (.bool (eB kind item qty dev seq)) ∧ Below w.heap.size w w' := by
 have gM := aHe hk item qty dev seq
 obtain ⟨z, hz, xI⟩ := xG item
 obtain ⟨q0, N2⟩ : ∃ b, (qty == 0) = b := ⟨_, rfl⟩
 obtain ⟨zd, hzd⟩ : ∃ b, (dev == 0) = b := ⟨_, rfl⟩
 obtain ⟨zs, lW⟩ : ∃ b, (seq == 0) = b := ⟨_, rfl⟩
 rw [hz, N2, hzd, lW] at gM
 have HE := aPo gM
 clear gM hz
 rcases hk with rfl | rfl | rfl <;> rcases xI with ⟨rfl, rfl⟩ | ⟨rfl, hn1, A4, hn3⟩ <;> cases q0 <;> cases zd <;> cases zs <;>
  (go_enter Tryz.func21, Tryz.ntmps21; go_wp2_with (first | (go_at_call 51; refine (pL _ _).mono ?_; rintro e w' ⟨rfl, rfl⟩; (first | skip)) | (go_at_call 52; refine (cH _ _ _ _).mono ?_; rintro e w' ⟨rfl, rfl⟩; (first | skip)) | (go_at_call 53; refine (B3 _ _).mono ?_; rintro e w' ⟨rfl, rfl⟩; (first | skip))); go_ret; exact ⟨by rw [HE.out]; rfl, bl⟩)
set_option maxHeartbeats 40000000 in
theorem aGZ {kind : Int} (hk : kind = 9) (item : ByteArray) (qty dev seq : Int) (w : World) : Calls Tryz.prog 21 #[.agg #[.int .i64 kind, .string item, .int .i64 qty, .int .i64 dev, .int .i64 seq]] w fun e w' => e = .returned (.bool (eB kind item qty dev seq)) ∧ Below w.heap.size w w' := by
 have gM := aHd hk item qty dev seq
 obtain ⟨z, hz, xI⟩ := xG item
 obtain ⟨q0, N2⟩ : ∃ b, (qty == 0) = b := ⟨_, rfl⟩
 obtain ⟨db, F6⟩ : ∃ b, cV dev 0 3 = b := ⟨_, rfl⟩
 obtain ⟨sb, S4⟩ : ∃ b, cV seq 1 40 = b := ⟨_, rfl⟩
 rw [hz, N2, F6, S4] at gM
 have HE := aPo gM
 have Hdb := aPo F6
 have Hsb := aPo S4
 clear gM hz F6 S4
 rcases hk with rfl <;> rcases xI with ⟨rfl, rfl⟩ | ⟨rfl, hn1, A4, hn3⟩ <;> cases q0 <;> cases db <;> cases sb <;>
  (go_enter Tryz.func21, Tryz.ntmps21; go_wp2_with (first | (go_at_call 51; refine (pL _ _).mono ?_; rintro e w' ⟨rfl, rfl⟩; (first | rw [Hdb.out] | rw [Hsb.out] | skip)) | (go_at_call 52; refine (cH _ _ _ _).mono ?_; rintro e w' ⟨rfl, rfl⟩; (first | rw [Hdb.out] | rw [Hsb.out] | skip)) | (go_at_call 53; refine (B3 _ _).mono ?_; rintro e w' ⟨rfl, rfl⟩; (first | rw [Hdb.out] | rw [Hsb.out] | skip))); go_ret; exact ⟨by rw [HE.out]; rfl, bl⟩)
set_option maxHeartbeats 20000000 in
theorem aEJ (kind : Int) (item : ByteArray) (qty dev seq : Int) (w : World) : Calls Tryz.prog 21 #[.agg #[.int .i64 kind, .string item, .int .i64 qty, .int .i64 dev, .int .i64 seq]] w fun e w' => e = .returned (.bool (eB kind item qty dev seq)) ∧ Below w.heap.size w w' := by
 by_cases g1 : kind = 1 ∨ kind = 2
 ·exact aG2 g1 item qty dev seq w
 by_cases g2 : kind = 3 ∨ kind = 4 ∨ kind = 5
 ·exact aG1 g2 item qty dev seq w
 by_cases g3 : kind = 6 ∨ kind = 7 ∨ kind = 8
 ·exact aG0 g3 item qty dev seq w
 by_cases g4 : kind = 9
 ·exact aGZ g4 item qty dev seq w
 have HE := aPo (aBW (item := item) (qty := qty) (dev := dev) (seq := seq) (kind := kind) (fun e => g1 (by omega)) (fun e => g1 (by omega)) (fun e => g2 (by omega)) (fun e => g2 (by omega)) (fun e => g2 (by omega)) (fun e => g3 (by omega)) (fun e => g3 (by omega)) (fun e => g3 (by omega)) (fun e => g4 (by omega)))
 have b1 : (kind == 1) = false := by rw [beq_eq_false_iff_ne]; exact fun e => g1 (by omega)
 have b2 : (kind == 2) = false := by rw [beq_eq_false_iff_ne]; exact fun e => g1 (by omega)
 have b3 : (kind == 3) = false := by rw [beq_eq_false_iff_ne]; exact fun e => g2 (by omega)
 have b4 : (kind == 4) = false := by rw [beq_eq_false_iff_ne]; exact fun e => g2 (by omega)
 have b5 : (kind == 5) = false := by rw [beq_eq_false_iff_ne]; exact fun e => g2 (by omega)
 have b6 : (kind == 6) = false := by rw [beq_eq_false_iff_ne]; exact fun e => g3 (by omega)
 have b7 : (kind == 7) = false := by rw [beq_eq_false_iff_ne]; exact fun e => g3 (by omega)
 have b8 : (kind == 8) = false := by rw [beq_eq_false_iff_ne]; exact fun e => g3 (by omega)
 have b9 : (kind == 9) = false := by rw [beq_eq_false_iff_ne]; exact fun e => g4 (by omega)
 clear g1 g2 g3 g4
 go_enter Tryz.func21, Tryz.ntmps21
 go_wp2
 go_ret
 exact ⟨by rw [HE.out]; rfl, bl⟩
end Go.Proofs.YthkagbnpcjidfaaGreatDoor
namespace Go.Proofs.YthkagbnpcjidfaaGreatDoor
set_option maxRecDepth 100000
end Go.Proofs.YthkagbnpcjidfaaGreatDoor
namespace Go.Proofs.YthkagbnpcjidfaaGreatDoor
set_option maxRecDepth 100000
open Go.RowKit
set_option linter.unusedVariables false
set_option linter.unusedSimpArgs false
theorem aGR (x : Int) : x = 0 ∨ (x == 0) = false := by
 by_cases h : x = 0
 ·exact .inl h
 ·exact .inr (by rw [beq_eq_false_iff_ne]; exact h)
set_option maxHeartbeats 40000000 in
theorem aGg {kind : Int} (hk : kind = 1 ∨ kind = 2) (item : ByteArray) (qty dev seq : Int) (hs : item.size ≤ 1048576) (w : World) : Calls Tryz.prog 22 #[.agg #[.int .i64 kind, .string item, .int .i64 qty, .int .i64 dev, .int .i64 seq]] w fun e w' => e = .returned (.bool (eB kind item qty dev seq)) ∧ Below w.heap.size w w' := by
 have gM := aHg hk item qty dev seq
 obtain ⟨ib, rV⟩ : ∃ b, fJ item = b := ⟨_, rfl⟩
 obtain ⟨qb, yM⟩ : ∃ b, cV qty 1 999 = b := ⟨_, rfl⟩
 obtain ⟨zd, hzd⟩ : ∃ b, (dev == 0) = b := ⟨_, rfl⟩
 obtain ⟨zs, lW⟩ : ∃ b, (seq == 0) = b := ⟨_, rfl⟩
 rw [rV, yM, hzd, lW] at gM
 have HE := aPo gM
 have zE := aPo rV
 have Hqb := aPo yM
 clear gM rV yM
 rcases hk with rfl | rfl <;> cases ib <;> cases qb <;> cases zd <;> cases zs <;>
  (go_enter Tryz.func22, Tryz.ntmps22; go_wp2_with (first | (go_at_call 54; refine (fI _ (by first | exact hs | exact Nat.zero_le _) _).mono ?_; rintro e w' ⟨rfl, rfl⟩; (first | rw [zE.out] | rw [Hqb.out] | skip)) | (go_at_call 55; refine (bL _ _ _ _).mono ?_; rintro e w' ⟨rfl, rfl⟩; (first | rw [zE.out] | rw [Hqb.out] | skip)) | (go_at_call 45; refine (fT _ _).mono ?_; rintro e w' ⟨rfl, rfl⟩; (first | rw [zE.out] | rw [Hqb.out] | skip))); go_ret; exact ⟨by rw [HE.out]; rfl, bl⟩)
set_option maxHeartbeats 40000000 in
theorem aGf {kind : Int} (hk : kind = 3 ∨ kind = 4 ∨ kind = 5) (item : ByteArray) (qty dev seq : Int) (hs : item.size ≤ 1048576) (w : World) : Calls Tryz.prog 22 #[.agg #[.int .i64 kind, .string item, .int .i64 qty, .int .i64 dev, .int .i64 seq]] w fun e w' => e = .returned (.bool (eB kind item qty dev seq)) ∧ Below w.heap.size w w' := by
 have gM := aHf hk item qty dev seq
 obtain ⟨ib, rV⟩ : ∃ b, fJ item = b := ⟨_, rfl⟩
 obtain ⟨q0, N2⟩ : ∃ b, (qty == 0) = b := ⟨_, rfl⟩
 obtain ⟨zd, hzd⟩ : ∃ b, (dev == 0) = b := ⟨_, rfl⟩
 obtain ⟨zs, lW⟩ : ∃ b, (seq == 0) = b := ⟨_, rfl⟩
 rw [rV, N2, hzd, lW] at gM
 have HE := aPo gM
 have zE := aPo rV
 clear gM rV
 rcases hk with rfl | rfl | rfl <;> cases ib <;> cases q0 <;> cases zd <;> cases zs <;>
  (go_enter Tryz.func22, Tryz.ntmps22; go_wp2_with (first | (go_at_call 54; refine (fI _ (by first | exact hs | exact Nat.zero_le _) _).mono ?_; rintro e w' ⟨rfl, rfl⟩; (first | rw [zE.out] | skip)) | (go_at_call 55; refine (bL _ _ _ _).mono ?_; rintro e w' ⟨rfl, rfl⟩; (first | rw [zE.out] | skip)) | (go_at_call 45; refine (fT _ _).mono ?_; rintro e w' ⟨rfl, rfl⟩; (first | rw [zE.out] | skip))); go_ret; exact ⟨by rw [HE.out]; rfl, bl⟩)
set_option maxHeartbeats 40000000 in
theorem aGe {kind : Int} (hk : kind = 6 ∨ kind = 7 ∨ kind = 8) (item : ByteArray) (qty dev seq : Int) (hs : item.size ≤ 1048576) (w : World) : Calls Tryz.prog 22 #[.agg #[.int .i64 kind, .string item, .int .i64 qty, .int .i64 dev, .int .i64 seq]] w fun e w' => e = .returned (.bool (eB kind item qty dev seq)) ∧ Below w.heap.size w w' := by
 have gM := aHe hk item qty dev seq
 obtain ⟨z, hz, xI⟩ := xG item
 obtain ⟨q0, N2⟩ : ∃ b, (qty == 0) = b := ⟨_, rfl⟩
 obtain ⟨zd, hzd⟩ : ∃ b, (dev == 0) = b := ⟨_, rfl⟩
 obtain ⟨zs, lW⟩ : ∃ b, (seq == 0) = b := ⟨_, rfl⟩
 rw [hz, N2, hzd, lW] at gM
 have HE := aPo gM
 clear gM hz
 rcases hk with rfl | rfl | rfl <;> rcases xI with ⟨rfl, rfl⟩ | ⟨rfl, hn1, A4, hn3⟩ <;> cases q0 <;> cases zd <;> cases zs <;>
  (go_enter Tryz.func22, Tryz.ntmps22; go_wp2_with (first | (go_at_call 54; refine (fI _ (by first | exact hs | exact Nat.zero_le _) _).mono ?_; rintro e w' ⟨rfl, rfl⟩; (first | skip)) | (go_at_call 55; refine (bL _ _ _ _).mono ?_; rintro e w' ⟨rfl, rfl⟩; (first | skip)) | (go_at_call 45; refine (fT _ _).mono ?_; rintro e w' ⟨rfl, rfl⟩; (first | skip))); go_ret; exact ⟨by rw [HE.out]; rfl, bl⟩)
set_option maxHeartbeats 40000000 in
theorem aGd {kind : Int} (hk : kind = 9) (item : ByteArray) (qty dev seq : Int) (hs : item.size ≤ 1048576) (w : World) : Calls Tryz.prog 22 #[.agg #[.int .i64 kind, .string item, .int .i64 qty, .int .i64 dev, .int .i64 seq]] w fun e w' => e = .returned (.bool (eB kind item qty dev seq)) ∧ Below w.heap.size w w' := by
 have gM := aHd hk item qty dev seq
 obtain ⟨z, hz, xI⟩ := xG item
 obtain ⟨q0, N2⟩ : ∃ b, (qty == 0) = b := ⟨_, rfl⟩
 obtain ⟨db, F6⟩ : ∃ b, cV dev 0 3 = b := ⟨_, rfl⟩
 obtain ⟨sb, S4⟩ : ∃ b, cV seq 1 40 = b := ⟨_, rfl⟩
 rw [hz, N2, F6, S4] at gM
 have HE := aPo gM
 have Hdb := aPo F6
 have Hsb := aPo S4
 clear gM hz F6 S4
 rcases hk with rfl <;> rcases aGR dev with rfl | hzd <;> rcases xI with ⟨rfl, rfl⟩ | ⟨rfl, hn1, A4, hn3⟩ <;> cases q0 <;> cases db <;> cases sb <;>
  (go_enter Tryz.func22, Tryz.ntmps22; go_wp2_with (first | (go_at_call 54; refine (fI _ (by first | exact hs | exact Nat.zero_le _) _).mono ?_; rintro e w' ⟨rfl, rfl⟩; (first | rw [Hdb.out] | rw [Hsb.out] | skip)) | (go_at_call 55; refine (bL _ _ _ _).mono ?_; rintro e w' ⟨rfl, rfl⟩; (first | rw [Hdb.out] | rw [Hsb.out] | skip)) | (go_at_call 45; refine (fT _ _).mono ?_; rintro e w' ⟨rfl, rfl⟩; (first | rw [Hdb.out] | rw [Hsb.out] | skip))); go_ret; exact ⟨by rw [HE.out]; rfl, bl⟩)
set_option maxHeartbeats 20000000 in
theorem aJR (kind : Int) (item : ByteArray) (qty dev seq : Int) (hs : item.size ≤ 1048576) (w : World) : Calls Tryz.prog 22 #[.agg #[.int .i64 kind, .string item, .int .i64 qty, .int .i64 dev, .int .i64 seq]] w fun e w' => e = .returned (.bool (eB kind item qty dev seq)) ∧ Below w.heap.size w w' := by
 by_cases g1 : kind = 1 ∨ kind = 2
 ·exact aGg g1 item qty dev seq hs w
 by_cases g2 : kind = 3 ∨ kind = 4 ∨ kind = 5
 ·exact aGf g2 item qty dev seq hs w
 by_cases g3 : kind = 6 ∨ kind = 7 ∨ kind = 8
 ·exact aGe g3 item qty dev seq hs w
 by_cases g4 : kind = 9
 ·exact aGd g4 item qty dev seq hs w
 have HE := aPo (aBW (item := item) (qty := qty) (dev := dev) (seq := seq) (kind := kind) (fun e => g1 (by omega)) (fun e => g1 (by omega)) (fun e => g2 (by omega)) (fun e => g2 (by omega)) (fun e => g2 (by omega)) (fun e => g3 (by omega)) (fun e => g3 (by omega)) (fun e => g3 (by omega)) (fun e => g4 (by omega)))
 have b1 : (kind == 1) = false := by rw [beq_eq_false_iff_ne]; exact fun e => g1 (by omega)
 have b2 : (kind == 2) = false := by rw [beq_eq_false_iff_ne]; exact fun e => g1 (by omega)
 have b3 : (kind == 3) = false := by rw [beq_eq_false_iff_ne]; exact fun e => g2 (by omega)
 have b4 : (kind == 4) = false := by rw [beq_eq_false_iff_ne]; exact fun e => g2 (by omega)
 have b5 : (kind == 5) = false := by rw [beq_eq_false_iff_ne]; exact fun e => g2 (by omega)
 have b6 : (kind == 6) = false := by rw [beq_eq_false_iff_ne]; exact fun e => g3 (by omega)
 have b7 : (kind == 7) = false := by rw [beq_eq_false_iff_ne]; exact fun e => g3 (by omega)
 have b8 : (kind == 8) = false := by rw [beq_eq_false_iff_ne]; exact fun e => g3 (by omega)
 have b9 : (kind == 9) = false := by rw [beq_eq_false_iff_ne]; exact fun e => g4 (by omega)
 clear g1 g2 g3 g4
 obtain ⟨zd, hzd⟩ : ∃ b, (dev == 0) = b := ⟨_, rfl⟩
 obtain ⟨zs, lW⟩ : ∃ b, (seq == 0) = b := ⟨_, rfl⟩
 cases zd <;> cases zs <;>
  (go_enter Tryz.func22, Tryz.ntmps22; go_wp2; go_ret; exact ⟨by rw [HE.out]; rfl, bl⟩)
end Go.Proofs.YthkagbnpcjidfaaGreatDoor
namespace Go.Proofs.YthkagbnpcjidfaaGreatDoor
set_option maxRecDepth 100000
end Go.Proofs.YthkagbnpcjidfaaGreatDoor
