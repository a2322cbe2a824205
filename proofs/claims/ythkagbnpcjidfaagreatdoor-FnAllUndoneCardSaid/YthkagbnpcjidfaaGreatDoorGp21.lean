/- Walks and mathematics that several claims share, part 21. -/
import Derived.Test.YthkagbnpcjidfaaGreatDoorGp3
import Derived.Deep.Cut
namespace Go.Proofs.YthkagbnpcjidfaaGreatDoor
set_option maxRecDepth 100000
open Go.RowKit
set_option linter.unusedVariables false
set_option linter.unusedSimpArgs false
def fW (kind : Int) (item : ByteArray) (qty dev seq : Int) : Bool :=
 if kind = 1 ∨ kind = 2 then gO item && (cO qty 1 999 && decide (dev = 0 ∧ seq = 0))
 else if kind = 3 ∨ kind = 4 ∨ kind = 5 then gO item && decide (qty = 0 ∧ dev = 0 ∧ seq = 0)
 else if kind = 6 ∨ kind = 7 ∨ kind = 8 then decide (item = ⟨#[]⟩ ∧ qty = 0 ∧ dev = 0 ∧ seq = 0)
 else if kind = 9 then decide (item = ⟨#[]⟩ ∧ qty = 0) && (cO dev 0 3 && cO seq 1 40)
 else false
theorem aJ9 {s : ByteArray} (h : ¬ s = ⟨#[]⟩) : s.toList ≠ [] := fun e => h (by
 rw [Lib.toList_data] at e
 exact ByteArray.ext (Array.toList_eq_nil_iff.1 e))
theorem B2 (dev : Int) (w : World) : Calls Tryz.prog 53 #[.int .i64 dev] w fun e w' => e = .returned (.bool (cO dev 0 3)) ∧ w = w' := by
 go_enter Tryz.func53, Tryz.ntmps53
 go_wp2_with fail
 refine (cE _ _ _ _).mono ?_
 rintro e w' ⟨rfl, rfl⟩
 go_wp2
 go_ret
 exact ⟨rfl, rfl⟩
theorem xF (s : ByteArray) : ∃ z, decide (s = ⟨#[]⟩) = z ∧ ((z = true ∧ s = ⟨#[]⟩) ∨ (z = false ∧ s.toList ≠ [] ∧ s.toList.isEmpty = false ∧ (s.toList == []) = false)) := by
 by_cases h : s = ⟨#[]⟩
 ·exact ⟨true, decide_eq_true h, .inl ⟨rfl, h⟩⟩
 ·have h1 := aJ9 h
  exact ⟨false, decide_eq_false h, .inr ⟨rfl, h1, by rw [List.isEmpty_eq_false_iff]; exact h1, by rw [beq_eq_false_iff_ne]; exact h1⟩⟩
theorem aG3 {kind : Int} (hk : kind = 1 ∨ kind = 2) (item : ByteArray) (qty dev seq : Int) : fW kind item qty dev seq = (gO item && (cO qty 1 999 && ((dev == 0) && (seq == 0)))) := by
 rcases hk with rfl | rfl <;> by_cases h1 : item = ⟨#[]⟩ <;> by_cases h2 : qty = 0 <;> by_cases h3 : dev = 0 <;> by_cases h4 : seq = 0 <;> simp [fW, h1, h2, h3, h4]
theorem aG2 {kind : Int} (hk : kind = 3 ∨ kind = 4 ∨ kind = 5) (item : ByteArray) (qty dev seq : Int) : fW kind item qty dev seq = (gO item && ((qty == 0) && ((dev == 0) && (seq == 0)))) := by
 rcases hk with rfl | rfl | rfl <;> by_cases h1 : item = ⟨#[]⟩ <;> by_cases h2 : qty = 0 <;> by_cases h3 : dev = 0 <;> by_cases h4 : seq = 0 <;> simp [fW, h1, h2, h3, h4]
theorem aG1 {kind : Int} (hk : kind = 6 ∨ kind = 7 ∨ kind = 8) (item : ByteArray) (qty dev seq : Int) : fW kind item qty dev seq = (decide (item = ⟨#[]⟩) && ((qty == 0) && ((dev == 0) && (seq == 0)))) := by
 rcases hk with rfl | rfl | rfl <;> by_cases h1 : item = ⟨#[]⟩ <;> by_cases h2 : qty = 0 <;> by_cases h3 : dev = 0 <;> by_cases h4 : seq = 0 <;> simp [fW, h1, h2, h3, h4]
theorem aG0 {kind : Int} (hk : kind = 9) (item : ByteArray) (qty dev seq : Int) : fW kind item qty dev seq = ((decide (item = ⟨#[]⟩) && (qty == 0)) && (cO dev 0 3 && cO seq 1 40)) := by
 rcases hk with rfl <;> by_cases h1 : item = ⟨#[]⟩ <;> by_cases h2 : qty = 0 <;> by_cases h3 : dev = 0 <;> by_cases h4 : seq = 0 <;> simp [fW, h1, h2, h3, h4]
theorem aBU {kind : Int} {item : ByteArray} {qty dev seq : Int} (h1 : kind ≠ 1) (h2 : kind ≠ 2) (h3 : kind ≠ 3) (h4 : kind ≠ 4) (h5 : kind ≠ 5) (h6 : kind ≠ 6) (h7 : kind ≠ 7) (h8 : kind ≠ 8) (h9 : kind ≠ 9) : fW kind item qty dev seq = false := by
 unfold fW
 rw [if_neg (by omega), if_neg (by omega), if_neg (by omega), if_neg h9]
set_option maxHeartbeats 40000000 in
theorem aGM {kind : Int} (hk : kind = 1 ∨ kind = 2) (item : ByteArray) (qty dev seq : Int) (w : World) : Calls Tryz.prog 21 #[.agg #[.int .i64 kind, .string item, .int .i64 qty, .int .i64 dev, .int .i64 seq]] w fun e w' => e = .returned (.bool (fW kind item qty dev seq)) ∧ Below w.heap.size w w' := by
 have gT := aG3 hk item qty dev seq
 obtain ⟨ib, sB⟩ : ∃ b, gO item = b := ⟨_, rfl⟩
 obtain ⟨qb, Z6⟩ : ∃ b, cO qty 1 999 = b := ⟨_, rfl⟩
 obtain ⟨zd, hzd⟩ : ∃ b, (dev == 0) = b := ⟨_, rfl⟩
 obtain ⟨zs, lP⟩ : ∃ b, (seq == 0) = b := ⟨_, rfl⟩
 rw [sB, Z6, hzd, lP] at gT
 have HE := aPu gT
 have zC := aPu sB
 have Hqb := aPu Z6
 clear gT sB Z6
 rcases hk with rfl | rfl <;> cases ib <;> cases qb <;> cases zd <;> cases zs <;>
  (go_enter Tryz.func21, Tryz.ntmps21; go_wp2_with (first | (go_at_call 51; refine (pJ _ _).mono ?_; rintro e w' ⟨rfl, rfl⟩; (first | rw [zC.out] | rw [Hqb.out] | skip)) | (go_at_call 52; refine (cE _ _ _ _).mono ?_; rintro e w' ⟨rfl, rfl⟩; (first | rw [zC.out] | rw [Hqb.out] | skip)) | (go_at_call 53; refine (B2 _ _).mono ?_; rintro e w' ⟨rfl, rfl⟩; (first | rw [zC.out] | rw [Hqb.out] | skip))); go_ret; exact ⟨by rw [HE.out]; rfl, bl⟩)
set_option maxHeartbeats 40000000 in
theorem aGL {kind : Int} (hk : kind = 3 ∨ kind = 4 ∨ kind = 5) (item : ByteArray) (qty dev seq : Int) (w : World) : Calls Tryz.prog 21 #[.agg #[.int .i64 kind, .string item, .int .i64 qty, .int .i64 dev, .int .i64 seq]] w fun e w' => e = .returned (.bool (fW kind item qty dev seq)) ∧ Below w.heap.size w w' := by
 have gT := aG2 hk item qty dev seq
 obtain ⟨ib, sB⟩ : ∃ b, gO item = b := ⟨_, rfl⟩
 obtain ⟨q0, M5⟩ : ∃ b, (qty == 0) = b := ⟨_, rfl⟩
 obtain ⟨zd, hzd⟩ : ∃ b, (dev == 0) = b := ⟨_, rfl⟩
 obtain ⟨zs, lP⟩ : ∃ b, (seq == 0) = b := ⟨_, rfl⟩
 rw [sB, M5, hzd, lP] at gT
 have HE := aPu gT
 have zC := aPu sB
 clear gT sB
 rcases hk with rfl | rfl | rfl <;> cases ib <;> cases q0 <;> cases zd <;> cases zs <;>
  (go_enter Tryz.func21, Tryz.ntmps21; go_wp2_with (first | (go_at_call 51; refine (pJ _ _).mono ?_; rintro e w' ⟨rfl, rfl⟩; (first | rw [zC.out] | skip)) | (go_at_call 52; refine (cE _ _ _ _).mono ?_; rintro e w' ⟨rfl, rfl⟩; (first | rw [zC.out] | skip)) | (go_at_call 53; refine (B2 _ _).mono ?_; rintro e w' ⟨rfl, rfl⟩; (first | rw [zC.out] | skip))); go_ret; exact ⟨by rw [HE.out]; rfl, bl⟩)
set_option maxHeartbeats 40000000 in
theorem aGK {kind : Int} (hk : kind = 6 ∨ kind = 7 ∨ kind = 8) (item : ByteArray) (qty dev seq : Int) (w : World) : Calls Tryz.prog 21 #[.agg #[.int .i64 kind, .string item, .int .i64 qty, .int .i64 dev, .int .i64 seq]] w fun e w' => e = .returned (.bool (fW kind item qty dev seq)) ∧ Below w.heap.size w w' := by
 have gT := aG1 hk item qty dev seq
 obtain ⟨z, hz, xG⟩ := xF item
 obtain ⟨q0, M5⟩ : ∃ b, (qty == 0) = b := ⟨_, rfl⟩
 obtain ⟨zd, hzd⟩ : ∃ b, (dev == 0) = b := ⟨_, rfl⟩
 obtain ⟨zs, lP⟩ : ∃ b, (seq == 0) = b := ⟨_, rfl⟩
 rw [hz, M5, hzd, lP] at gT
 have HE := aPu gT
 clear gT hz
 rcases hk with rfl | rfl | rfl <;> rcases xG with ⟨rfl, rfl⟩ | ⟨rfl, hn1, vJ, hn3⟩ <;> cases q0 <;> cases zd <;> cases zs <;>
  (go_enter Tryz.func21, Tryz.ntmps21; go_wp2_with (first | (go_at_call 51; refine (pJ _ _).mono ?_; rintro e w' ⟨rfl, rfl⟩; (first | skip)) | (go_at_call 52; refine (cE _ _ _ _).mono ?_; rintro e w' ⟨rfl, rfl⟩; (first | skip)) | (go_at_call 53; refine (B2 _ _).mono ?_; rintro e w' ⟨rfl, rfl⟩; (first | skip))); go_ret; exact ⟨by rw [HE.out]; rfl, bl⟩)
set_option maxHeartbeats 40000000 in
theorem aGJ {kind : Int} (hk : kind = 9) (item : ByteArray) (qty dev seq : Int) (w : World) : Calls Tryz.prog 21 #[.agg #[.int .i64 kind, .string item, .int .i64 qty, .int .i64 dev, .int .i64 seq]] w fun e w' => e = .returned (.bool (fW kind item qty dev seq)) ∧ Below w.heap.size w w' := by
 have gT := aG0 hk item qty dev seq
 obtain ⟨z, hz, xG⟩ := xF item
 obtain ⟨q0, M5⟩ : ∃ b, (qty == 0) = b := ⟨_, rfl⟩
 obtain ⟨db, hdb⟩ : ∃ b, cO dev 0 3 = b := ⟨_, rfl⟩
 obtain ⟨sb, hsb⟩ : ∃ b, cO seq 1 40 = b := ⟨_, rfl⟩
 rw [hz, M5, hdb, hsb] at gT
 have HE := aPu gT
 have Hdb := aPu hdb
 have Hsb := aPu hsb
 clear gT hz hdb hsb
 rcases hk with rfl <;> rcases xG with ⟨rfl, rfl⟩ | ⟨rfl, hn1, vJ, hn3⟩ <;> cases q0 <;> cases db <;> cases sb <;>
  (go_enter Tryz.func21, Tryz.ntmps21; go_wp2_with (first | (go_at_call 51; refine (pJ _ _).mono ?_; rintro e w' ⟨rfl, rfl⟩; (first | rw [Hdb.out] | rw [Hsb.out] | skip)) | (go_at_call 52; refine (cE _ _ _ _).mono ?_; rintro e w' ⟨rfl, rfl⟩; (first | rw [Hdb.out] | rw [Hsb.out] | skip)) | (go_at_call 53; refine (B2 _ _).mono ?_; rintro e w' ⟨rfl, rfl⟩; (first | rw [Hdb.out] | rw [Hsb.out] | skip))); go_ret; exact ⟨by rw [HE.out]; rfl, bl⟩)
set_option maxHeartbeats 20000000 in
theorem aEt (kind : Int) (item : ByteArray) (qty dev seq : Int) (w : World) : Calls Tryz.prog 21 #[.agg #[.int .i64 kind, .string item, .int .i64 qty, .int .i64 dev, .int .i64 seq]] w fun e w' => e = .returned (.bool (fW kind item qty dev seq)) ∧ Below w.heap.size w w' := by
 by_cases g1 : kind = 1 ∨ kind = 2
 ·exact aGM g1 item qty dev seq w
 by_cases g2 : kind = 3 ∨ kind = 4 ∨ kind = 5
 ·exact aGL g2 item qty dev seq w
 by_cases g3 : kind = 6 ∨ kind = 7 ∨ kind = 8
 ·exact aGK g3 item qty dev seq w
 by_cases g4 : kind = 9
 ·exact aGJ g4 item qty dev seq w
 have HE := aPu (aBU (item := item) (qty := qty) (dev := dev) (seq := seq) (kind := kind) (fun e => g1 (by omega)) (fun e => g1 (by omega)) (fun e => g2 (by omega)) (fun e => g2 (by omega)) (fun e => g2 (by omega)) (fun e => g3 (by omega)) (fun e => g3 (by omega)) (fun e => g3 (by omega)) (fun e => g4 (by omega)))
 have b1 : (kind == 1) = false := by rw [beq_eq_false_iff_ne]; exact fun e => g1 (by omega)
 have b2 : (kind == 2) = false := by rw [beq_eq_false_iff_ne]; exact fun e => g1 (by omega)
 have b3 : (kind == 3) = false := by rw [beq_eq_false_iff_ne]; exact fun e => g2 (by omega)
 have b4 : (kind == 4) = false := by rw [beq_eq_false_iff_ne]; exact fun e => g2 (by omega)
 have b5 : (kind == 5) = false := by rw [beq_eq_false_iff_ne]; exact fun e => g2 (by omega)
 have b6 : (kind == 6) = false := by rw [beq_eq_false_iff_ne]; exact fun e => g3 (by omega)
 have b7 : (kind == 7) = false := by rw [beq_eq_false_iff_ne]; exact fun e => g3 (by omega)
 have b8 : (kind == 8) = false := by rw [beq_eq_false_iff_ne]; exact fun e => g3 (by omega)
 have b9 : (kind == 9) = false := by rw [beq_eq_false_iff_ne]; exact fun e => g4 (by omega)
 clear g1 g2 g3 g4
 go_enter Tryz.func21, Tryz.ntmps21
 go_wp2
 go_ret
 exact ⟨by rw [HE.out]; rfl, bl⟩
end Go.Proofs.YthkagbnpcjidfaaGreatDoor
namespace Go.Proofs.YthkagbnpcjidfaaGreatDoor
set_option maxRecDepth 100000
end Go.Proofs.YthkagbnpcjidfaaGreatDoor
namespace Go.Proofs.YthkagbnpcjidfaaGreatDoor
set_option maxRecDepth 100000
open Go.RowKit
set_option linter.unusedVariables false
set_option linter.unusedSimpArgs false
theorem aGB (x : Int) : x = 0 ∨ (x == 0) = false := by
 by_cases h : x = 0
 ·exact .inl h
 ·exact .inr (by rw [beq_eq_false_iff_ne]; exact h)
set_option maxHeartbeats 40000000 in
theorem aF2 {kind : Int} (hk : kind = 1 ∨ kind = 2) (item : ByteArray) (qty dev seq : Int) (hs : item.size ≤ 1048576) (w : World) : Calls Tryz.prog 22 #[.agg #[.int .i64 kind, .string item, .int .i64 qty, .int .i64 dev, .int .i64 seq]] w fun e w' => e = .returned (.bool (fW kind item qty dev seq)) ∧ Below w.heap.size w w' := by
 have gT := aG3 hk item qty dev seq
 obtain ⟨ib, sB⟩ : ∃ b, gO item = b := ⟨_, rfl⟩
 obtain ⟨qb, Z6⟩ : ∃ b, cO qty 1 999 = b := ⟨_, rfl⟩
 obtain ⟨zd, hzd⟩ : ∃ b, (dev == 0) = b := ⟨_, rfl⟩
 obtain ⟨zs, lP⟩ : ∃ b, (seq == 0) = b := ⟨_, rfl⟩
 rw [sB, Z6, hzd, lP] at gT
 have HE := aPu gT
 have zC := aPu sB
 have Hqb := aPu Z6
 clear gT sB Z6
 rcases hk with rfl | rfl <;> cases ib <;> cases qb <;> cases zd <;> cases zs <;>
  (go_enter Tryz.func22, Tryz.ntmps22; go_wp2_with (first | (go_at_call 54; refine (fH _ (by first | exact hs | exact Nat.zero_le _) _).mono ?_; rintro e w' ⟨rfl, rfl⟩; (first | rw [zC.out] | rw [Hqb.out] | skip)) | (go_at_call 55; refine (bL _ _ _ _).mono ?_; rintro e w' ⟨rfl, rfl⟩; (first | rw [zC.out] | rw [Hqb.out] | skip)) | (go_at_call 45; refine (fR _ _).mono ?_; rintro e w' ⟨rfl, rfl⟩; (first | rw [zC.out] | rw [Hqb.out] | skip))); go_ret; exact ⟨by rw [HE.out]; rfl, bl⟩)
set_option maxHeartbeats 40000000 in
theorem aF1 {kind : Int} (hk : kind = 3 ∨ kind = 4 ∨ kind = 5) (item : ByteArray) (qty dev seq : Int) (hs : item.size ≤ 1048576) (w : World) : Calls Tryz.prog 22 #[.agg #[.int .i64 kind, .string item, .int .i64 qty, .int .i64 dev, .int .i64 seq]] w fun e w' => e = .returned (.bool (fW kind item qty dev seq)) ∧ Below w.heap.size w w' := by
 have gT := aG2 hk item qty dev seq
 obtain ⟨ib, sB⟩ : ∃ b, gO item = b := ⟨_, rfl⟩
 obtain ⟨q0, M5⟩ : ∃ b, (qty == 0) = b := ⟨_, rfl⟩
 obtain ⟨zd, hzd⟩ : ∃ b, (dev == 0) = b := ⟨_, rfl⟩
 obtain ⟨zs, lP⟩ : ∃ b, (seq == 0) = b := ⟨_, rfl⟩
 rw [sB, M5, hzd, lP] at gT
 have HE := aPu gT
 have zC := aPu sB
 clear gT sB
 rcases hk with rfl | rfl | rfl <;> cases ib <;> cases q0 <;> cases zd <;> cases zs <;>
  (go_enter Tryz.func22, Tryz.ntmps22; go_wp2_with (first | (go_at_call 54; refine (fH _ (by first | exact hs | exact Nat.zero_le _) _).mono ?_; rintro e w' ⟨rfl, rfl⟩; (first | rw [zC.out] | skip)) | (go_at_call 55; refine (bL _ _ _ _).mono ?_; rintro e w' ⟨rfl, rfl⟩; (first | rw [zC.out] | skip)) | (go_at_call 45; refine (fR _ _).mono ?_; rintro e w' ⟨rfl, rfl⟩; (first | rw [zC.out] | skip))); go_ret; exact ⟨by rw [HE.out]; rfl, bl⟩)
set_option maxHeartbeats 40000000 in
theorem aF0 {kind : Int} (hk : kind = 6 ∨ kind = 7 ∨ kind = 8) (item : ByteArray) (qty dev seq : Int) (hs : item.size ≤ 1048576) (w : World) : Calls Tryz.prog 22 #[.agg #[.int .i64 kind, .string item, .int .i64 qty, .int .i64 dev, .int .i64 seq]] w fun e w' => e = .returned (.bool (fW kind item qty dev seq)) ∧ Below w.heap.size w w' := by
 have gT := aG1 hk item qty dev seq
 obtain ⟨z, hz, xG⟩ := xF item
 obtain ⟨q0, M5⟩ : ∃ b, (qty == 0) = b := ⟨_, rfl⟩
 obtain ⟨zd, hzd⟩ : ∃ b, (dev == 0) = b := ⟨_, rfl⟩
 obtain ⟨zs, lP⟩ : ∃ b, (seq == 0) = b := ⟨_, rfl⟩
 rw [hz, M5, hzd, lP] at gT
 have HE := aPu gT
 clear gT hz
 rcases hk with rfl | rfl | rfl <;> rcases xG with ⟨rfl, rfl⟩ | ⟨rfl, hn1, vJ, hn3⟩ <;> cases q0 <;> cases zd <;> cases zs <;>
  (go_enter Tryz.func22, Tryz.ntmps22; go_wp2_with (first | (go_at_call 54; refine (fH _ (by first | exact hs | exact Nat.zero_le _) _).mono ?_; rintro e w' ⟨rfl, rfl⟩; (first | skip)) | (go_at_call 55; refine (bL _ _ _ _).mono ?_; rintro e w' ⟨rfl, rfl⟩; (first | skip)) | (go_at_call 45; refine (fR _ _).mono ?_; rintro e w' ⟨rfl, rfl⟩; (first | skip))); go_ret; exact ⟨by rw [HE.out]; rfl, bl⟩)
set_option maxHeartbeats 40000000 in
theorem aFZ {kind : Int} (hk : kind = 9) (item : ByteArray) (qty dev seq : Int) (hs : item.size ≤ 1048576) (w : World) : Calls Tryz.prog 22 #[.agg #[.int .i64 kind, .string item, .int .i64 qty, .int .i64 dev, .int .i64 seq]] w fun e w' => e = .returned (.bool (fW kind item qty dev seq)) ∧ Below w.heap.size w w' := by
 have gT := aG0 hk item qty dev seq
 obtain ⟨z, hz, xG⟩ := xF item
 obtain ⟨q0, M5⟩ : ∃ b, (qty == 0) = b := ⟨_, rfl⟩
 obtain ⟨db, hdb⟩ : ∃ b, cO dev 0 3 = b := ⟨_, rfl⟩
 obtain ⟨sb, hsb⟩ : ∃ b, cO seq 1 40 = b := ⟨_, rfl⟩
 rw [hz, M5, hdb, hsb] at gT
 have HE := aPu gT
 have Hdb := aPu hdb
 have Hsb := aPu hsb
 clear gT hz hdb hsb
 rcases hk with rfl <;> rcases aGB dev with rfl | hzd <;> rcases xG with ⟨rfl, rfl⟩ | ⟨rfl, hn1, vJ, hn3⟩ <;> cases q0 <;> cases db <;> cases sb <;>
  (go_enter Tryz.func22, Tryz.ntmps22; go_wp2_with (first | (go_at_call 54; refine (fH _ (by first | exact hs | exact Nat.zero_le _) _).mono ?_; rintro e w' ⟨rfl, rfl⟩; (first | rw [Hdb.out] | rw [Hsb.out] | skip)) | (go_at_call 55; refine (bL _ _ _ _).mono ?_; rintro e w' ⟨rfl, rfl⟩; (first | rw [Hdb.out] | rw [Hsb.out] | skip)) | (go_at_call 45; refine (fR _ _).mono ?_; rintro e w' ⟨rfl, rfl⟩; (first | rw [Hdb.out] | rw [Hsb.out] | skip))); go_ret; exact ⟨by rw [HE.out]; rfl, bl⟩)
set_option maxHeartbeats 20000000 in
theorem aJI (kind : Int) (item : ByteArray) (qty dev seq : Int) (hs : item.size ≤ 1048576) (w : World) : Calls Tryz.prog 22 #[.agg #[.int .i64 kind, .string item, .int .i64 qty, .int .i64 dev, .int .i64 seq]] w fun e w' => e = .returned (.bool (fW kind item qty dev seq)) ∧ Below w.heap.size w w' := by
 by_cases g1 : kind = 1 ∨ kind = 2
 ·exact aF2 g1 item qty dev seq hs w
 by_cases g2 : kind = 3 ∨ kind = 4 ∨ kind = 5
 ·exact aF1 g2 item qty dev seq hs w
 by_cases g3 : kind = 6 ∨ kind = 7 ∨ kind = 8
 ·exact aF0 g3 item qty dev seq hs w
 by_cases g4 : kind = 9
 ·exact aFZ g4 item qty dev seq hs w
 have HE := aPu (aBU (item := item) (qty := qty) (dev := dev) (seq := seq) (kind := kind) (fun e => g1 (by omega)) (fun e => g1 (by omega)) (fun e => g2 (by omega)) (fun e => g2 (by omega)) (fun e => g2 (by omega)) (fun e => g3 (by omega)) (fun e => g3 (by omega)) (fun e => g3 (by omega)) (fun e => g4 (by omega)))
 have b1 : (kind == 1) = false := by rw [beq_eq_false_iff_ne]; exact fun e => g1 (by omega)
 have b2 : (kind == 2) = false := by rw [beq_eq_false_iff_ne]; exact fun e => g1 (by omega)
 have b3 : (kind == 3) = false := by rw [beq_eq_false_iff_ne]; exact fun e => g2 (by omega)
 have b4 : (kind == 4) = false := by rw [beq_eq_false_iff_ne]; exact fun e => g2 (by omega)
 have b5 : (kind == 5) = false := by rw [beq_eq_false_iff_ne]; exact fun e => g2 (by omega)
 have b6 : (kind == 6) = false := by rw [beq_eq_false_iff_ne]; exact fun e => g3 (by omega)
 have b7 : (kind == 7) = false := by rw [beq_eq_false_iff_ne]; exact fun e => g3 (by omega)
 have b8 : (kind == 8) = false := by rw [beq_eq_false_iff_ne]; exact fun e => g3 (by omega)
 have b9 : (kind == 9) = false := by rw [beq_eq_false_iff_ne]; exact fun e => g4 (by omega)
 clear g1 g2 g3 g4
 obtain ⟨zd, hzd⟩ : ∃ b, (dev == 0) = b := ⟨_, rfl⟩
 obtain ⟨zs, lP⟩ : ∃ b, (seq == 0) = b := ⟨_, rfl⟩
 cases zd <;> cases zs <;>
  (go_enter Tryz.func22, Tryz.ntmps22; go_wp2; go_ret; exact ⟨by rw [HE.out]; rfl, bl⟩)
end Go.Proofs.YthkagbnpcjidfaaGreatDoor
namespace Go.Proofs.YthkagbnpcjidfaaGreatDoor
set_option maxRecDepth 100000
end Go.Proofs.YthkagbnpcjidfaaGreatDoor
