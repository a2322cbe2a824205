/- Walks and mathematics that several claims share, part 48. -/
import Derived.Test.YthkagbnpcjidfaaGreatDoorGu46
import Derived.Test.YthkagbnpcjidfaaGreatDoorGu47
import Derived.Deep.Cut
namespace Go.Proofs.YthkagbnpcjidfaaGreatDoor
set_option maxRecDepth 100000
open Go.RowKit
set_option linter.unusedVariables false
set_option linter.unusedSimpArgs false
set_option maxHeartbeats 80000000 in
theorem fnRemoveAddWalk (E : Int → Addr) (a : Option Addr) (len cap : Nat) (bs : List Int) (w : World) (hE : eG w w.heap.size E) (h : IsRow .u8 w a len cap bs) :
  Calls Tryz.prog 13 #[.slice a len cap] w fun e w' => e = .returned (.bool true) ∧ Below w.heap.size w w' := by
 by_cases p7 : len ≤ 1048576
 rotate_left
 ·go_enter Tryz.func13, Tryz.ntmps13
  go_wp2_with fail
  refine (aHo a len cap p7 w).mono ?_
  rintro e w' ⟨rfl, rfl⟩; go_wp2
  go_ret
  exact ⟨rfl, Below.refl _ _⟩
 have aC2 := aPo (aAc h p7)
 have gM := aPo hE
 clear h hE
 go_enter Tryz.func13, Tryz.ntmps13
 go_wp2_with fail
 refine (aJu a len cap p7 w).mono ?_
 rintro e w' ⟨rfl, rfl⟩
 go_wp2_with fail
 refine (aBV w w.heap.size a len cap aPq aC2.out).mono ?_
 rintro e w0 ⟨⟨fE, fD, fG, ano, fF⟩, dev, kind, item, qty, dv, sq, aC7, rfl, hx, bD⟩
 obtain ⟨xs, l, e1, a1, a2, a3, a4, a5, a6⟩ := hx
 have e1 : ano = l.length := e1
 subst e1
 have HE := aPo (gM.out.below bD aPq)
 clear gM
 have gM := HE
 clear HE
 have aDF := aPo a1.ints
 have aDO := aPo a2.ops
 have pW := aPo bD
 have nM := aPo a3
 have iJ := aPo a4
 have qG : item.size ≤ 1048576 := Nat.le_trans aC7 (by omega)
 have j2 := aPo qG
 have j3 : Hid (∀ i, i < l.length → (aC l i).item.size ≤ 1048576) := fun i hi => Nat.le_trans (a5 i hi) (by omega)
 have jW := bD.size
 clear a1 a2 a3 a4 a5 bD aC7 qG
 dsimp only
 go_upto_region 4 with fail
 have hT := q9 w0 #[.slice fE 4 fD, .slice fG l.length fF] #[.int .i64 kind, .string item, .int .i64 qty, .int .i64 dv, .int .i64 sq] 27 29
 have s9 := aPo hT.1
 have s8 := aPo hT.2.1
 have hb := hT.2.2
 clear hT
 generalize (w0.alloc (.cells #[.slice fE 4 fD, .slice fG l.length fF] 27)).alloc (.cells #[.int .i64 kind, .string item, .int .i64 qty, .int .i64 dv, .int .i64 sq] 29) = w1 at hb s9 s8 ⊢
 have eZ := hb.size
 have aDE := eQ hb aDF
 have aDN := eR hb aDO
 have cU := fC hb pW
 have fB := jP hb gM
 clear hb aDF aDO pW gM
 obtain ⟨cb, hcb⟩ : ∃ b, aE xs l = b := ⟨_, rfl⟩
 have jU := aPo hcb
 clear hcb
 have aT : (cb != cb) = false := by cases cb <;> rfl
 go_wp2_with fail
 obtain ⟨w2, fK⟩ : ∃ z, w1.drew = z := ⟨_, rfl⟩
 have hb : Below w1.heap.size w1 w2 := by rw [← fK]; exact ⟨rfl, rfl, rfl, Nat.le_refl _, fun _ _ => rfl⟩
 have eC := hb.size
 have t8 := eQ hb aDE
 have u6 := eR hb aDN
 have bT := fC hb cU
 have dW := jP hb fB
 have L8 := cK hb s9
 have aDz := cK hb s8
 clear hb aDE aDN cU fB s9 s8
 have hS : w2.cell? ⟨w0.heap.size, 0, none⟩ = some (.slice fE 4 fD) ∧ w2.cell? ⟨w0.heap.size, 1, none⟩ = some (.slice fG l.length fF) := ⟨(pair_cells L8.out).1, (pair_cells L8.out).2⟩
 refine wp_region_held_drew (S := fun w' => w'.cell? ⟨w0.heap.size, 0, none⟩ = some (.slice fE 4 fD) ∧ w'.cell? ⟨w0.heap.size, 1, none⟩ = some (.slice fG l.length fF)) (by kernel_rfl) (by rw [fK]; exact hS) (fun aL => ?_)
 rw [fK]
 clear aL fK
 refine tk 0 ⟨some 22, .load 27 (.tmp 3), 27, "laws.go:1584", #[], none⟩ ?_
 (try simp only [Act.put, u1, u2, u3])
 refine tk 2 ⟨some 24, .load 27 (.tmp 3), 27, "laws.go:1584", #[], none⟩ ?_
 (try simp only [Act.put, u1, u2, u3])
 refine rk 1 rfl (fun K hK => ?_)
 go_simp
 go_at_call 23
 refine (iZ w2 w2.heap.size fE fG 4 fD l.length fF xs l (t8.out.more (by omega)) (u6.out.more (by omega)) aPq (by omega) iJ.out.1 ⟨by omega, iJ.out.2.1⟩).mono ?_
 rintro e w3 ⟨rfl, hb⟩
 rw [jU.out]
 have gO := hb.size
 have t7 := eQ hb t8
 have u5 := eR hb u6
 have dX := fC hb bT
 have j4 := jP hb dW
 have L7 := cK hb L8
 have aDy := cK hb aDz
 clear hb t8 u6 bT dW L8 aDz
 have eD : w3.cell? ⟨w0.heap.size, 0, none⟩ = some (.slice fE 4 fD) ∧ w3.cell? ⟨w0.heap.size, 1, none⟩ = some (.slice fG l.length fF) := ⟨(pair_cells L7.out).1, (pair_cells L7.out).2⟩
 refine hK.out _ _ eD (fun dQ => ?_)
 clear hK K
 (try simp only [Act.put, u1, u2, u3])
 clear dQ
 refine rk 3 rfl (fun K hK => ?_)
 go_simp
 go_at_call 36
 refine (iW w3 w3.heap.size fE fG 4 fD l.length fF xs l (t7.out.more (by omega)) (u5.out.more (by omega)) aPq (by omega) (by omega) j3.out).mono ?_
 rintro e w4 ⟨rfl, hb⟩
 rw [jU.out]
 have F3 := hb.size
 have t6 := eQ hb t7
 have u4 := eR hb u5
 have lF := fC hb dX
 have wW := jP hb j4
 have L6 := cK hb L7
 have aDx := cK hb aDy
 clear hb t7 u5 dX j4 L7 aDy
 have hS4 : w4.cell? ⟨w0.heap.size, 0, none⟩ = some (.slice fE 4 fD) ∧ w4.cell? ⟨w0.heap.size, 1, none⟩ = some (.slice fG l.length fF) := ⟨(pair_cells L6.out).1, (pair_cells L6.out).2⟩
 refine hK.out _ _ hS4 (fun jN => ?_)
 clear hK K
 (try simp only [Act.put, u1, u2, u3])
 clear jN
 refine tk 4 ⟨some 26, .binOp .neq 4 (.tmp 23) (.tmp 25) 4, 4, "laws.go:1584", #[⟨1, .data⟩, ⟨3, .data⟩], none⟩ ?_
 (try simp only [Act.put, u1, u2, u3])
 refine tk 5 ⟨some 27, .move (.tmp 26), 4, "laws.go:1584", #[⟨4, .data⟩, ⟨3, .chain⟩], none⟩ ?_
 (try simp only [Act.put, u1, u2, u3])
 refine tk 6 ⟨some 28, .load 27 (.tmp 3), 27, "laws.go:1584", #[⟨5, .guard⟩], some (5, false)⟩ ?_
 (try simp only [Act.put, u1, u2, u3])
 refine rk 7 rfl (fun K hK => ?_)
 go_simp
 go_at_call 36
 refine (iW w4 w4.heap.size fE fG 4 fD l.length fF xs l (t6.out.more (by omega)) (u4.out.more (by omega)) aPq (by omega) (by omega) j3.out).mono ?_
 rintro e w5 ⟨rfl, hb⟩
 rw [jU.out]
 have hs5 := hb.size
 have zJ := eQ hb t6
 have zQ := eR hb u4
 have oX := fC hb lF
 have G9 := jP hb wW
 have rM := cK hb L6
 have L4 := cK hb aDx
 clear hb t6 u4 lF wW L6 aDx
 have hS6 : w5.cell? ⟨w0.heap.size, 0, none⟩ = some (.slice fE 4 fD) ∧ w5.cell? ⟨w0.heap.size, 1, none⟩ = some (.slice fG l.length fF) := ⟨(pair_cells rM.out).1, (pair_cells rM.out).2⟩
 refine hK.out _ _ hS6 (fun kF => ?_)
 clear hK K
 (try simp only [Act.put, u1, u2, u3])
 clear kF
 by_cases vO : cb = true ∧ 0 ≤ dev ∧ dev ≤ 3
 rotate_left
 ·have hw : cb = false ∨ (cb = true ∧ dev < 0) ∨ (cb = true ∧ ¬ dev < 0 ∧ 4 ≤ dev) := by cases cb <;> simp at vO ⊢ <;> omega
  clear vO; rcases hw with h | ⟨h, h0⟩ | ⟨h, h0, h4⟩
  focus
   subst h; refine tk 8 ⟨some 30, .unOp .not 4 (.tmp 29), 4, "laws.go:1584", #[⟨7, .data⟩, ⟨5, .guard⟩], some (5, false)⟩ ?_
   (try simp only [Act.put, u1, u2, u3])
   refine tk 9 ⟨some 31, .pick (.tmp 27) (.const (Value.bool true)) (.tmp 30), 4, "laws.go:1584", #[⟨5, .data⟩, ⟨8, .data⟩], none⟩ ?_
   (try simp only [Act.put, u1, u2, u3])
   refine tk 10 ⟨some 32, .move (.tmp 31), 4, "laws.go:1584", #[⟨9, .data⟩, ⟨7, .chain⟩], none⟩ ?_
   (try simp only [Act.put, u1, u2, u3])
   refine sk 11 ⟨some 33, .move (.tmp 4), 2, "laws.go:1584", #[⟨10, .guard⟩], some (10, false)⟩ ?_
   (try simp only [Act.put, u1, u2, u3])
   refine sk 12 ⟨some 34, .binOp .lss 2 (.tmp 33) (.const (Value.int IntKind.i64 0)) 2, 4, "laws.go:1584", #[⟨11, .data⟩, ⟨10, .guard⟩], some (10, false)⟩ ?_
   (try simp only [Act.put, u1, u2, u3])
   refine tk 13 ⟨some 35, .pick (.tmp 32) (.const (Value.bool true)) (.tmp 34), 4, "laws.go:1584", #[⟨10, .data⟩, ⟨12, .data⟩], none⟩ ?_
   (try simp only [Act.put, u1, u2, u3])
   refine tk 14 ⟨some 36, .move (.tmp 35), 4, "laws.go:1584", #[⟨13, .data⟩, ⟨10, .chain⟩], none⟩ ?_
   (try simp only [Act.put, u1, u2, u3])
   refine sk 15 ⟨some 37, .move (.tmp 4), 2, "laws.go:1584", #[⟨14, .guard⟩], some (14, false)⟩ ?_
   (try simp only [Act.put, u1, u2, u3])
   refine sk 16 ⟨some 38, .binOp .geq 2 (.tmp 37) (.const (Value.int IntKind.i64 4)) 2, 4, "laws.go:1584", #[⟨15, .data⟩, ⟨14, .guard⟩], some (14, false)⟩ ?_
   (try simp only [Act.put, u1, u2, u3])
   refine tk 17 ⟨some 39, .pick (.tmp 36) (.const (Value.bool true)) (.tmp 38), 4, "laws.go:1584", #[⟨14, .data⟩, ⟨16, .data⟩], none⟩ ?_
   (try simp only [Act.put, u1, u2, u3])
   refine wpAnyH_done (by kernel_rfl) ?_ _
  rotate_left
  focus
   subst h; have h0' : decide (dev < 0) = true := decide_eq_true h0; refine tk 8 ⟨some 30, .unOp .not 4 (.tmp 29), 4, "laws.go:1584", #[⟨7, .data⟩, ⟨5, .guard⟩], some (5, false)⟩ ?_
   (try simp only [Act.put, u1, u2, u3])
   refine tk 9 ⟨some 31, .pick (.tmp 27) (.const (Value.bool true)) (.tmp 30), 4, "laws.go:1584", #[⟨5, .data⟩, ⟨8, .data⟩], none⟩ ?_
   (try simp only [Act.put, u1, u2, u3])
   refine tk 10 ⟨some 32, .move (.tmp 31), 4, "laws.go:1584", #[⟨9, .data⟩, ⟨7, .chain⟩], none⟩ ?_
   (try simp only [Act.put, u1, u2, u3])
   refine tk 11 ⟨some 33, .move (.tmp 4), 2, "laws.go:1584", #[⟨10, .guard⟩], some (10, false)⟩ ?_
   (try simp only [Act.put, u1, u2, u3])
   refine tk 12 ⟨some 34, .binOp .lss 2 (.tmp 33) (.const (Value.int IntKind.i64 0)) 2, 4, "laws.go:1584", #[⟨11, .data⟩, ⟨10, .guard⟩], some (10, false)⟩ ?_
   (try simp only [Act.put, u1, u2, u3])
   refine tk 13 ⟨some 35, .pick (.tmp 32) (.const (Value.bool true)) (.tmp 34), 4, "laws.go:1584", #[⟨10, .data⟩, ⟨12, .data⟩], none⟩ ?_
   (try simp only [Act.put, u1, u2, u3])
   refine tk 14 ⟨some 36, .move (.tmp 35), 4, "laws.go:1584", #[⟨13, .data⟩, ⟨10, .chain⟩], none⟩ ?_
   (try simp only [Act.put, u1, u2, u3])
   refine sk 15 ⟨some 37, .move (.tmp 4), 2, "laws.go:1584", #[⟨14, .guard⟩], some (14, false)⟩ ?_
   (try simp only [Act.put, u1, u2, u3])
   refine sk 16 ⟨some 38, .binOp .geq 2 (.tmp 37) (.const (Value.int IntKind.i64 4)) 2, 4, "laws.go:1584", #[⟨15, .data⟩, ⟨14, .guard⟩], some (14, false)⟩ ?_
   (try simp only [Act.put, u1, u2, u3])
   refine tk 17 ⟨some 39, .pick (.tmp 36) (.const (Value.bool true)) (.tmp 38), 4, "laws.go:1584", #[⟨14, .data⟩, ⟨16, .data⟩], none⟩ ?_
   (try simp only [Act.put, u1, u2, u3])
   refine wpAnyH_done (by kernel_rfl) ?_ _
  rotate_left
  focus
   subst h; have h0' : decide (dev < 0) = false := decide_eq_false h0; have h4' : decide (4 ≤ dev) = true := decide_eq_true h4; refine tk 8 ⟨some 30, .unOp .not 4 (.tmp 29), 4, "laws.go:1584", #[⟨7, .data⟩, ⟨5, .guard⟩], some (5, false)⟩ ?_
   (try simp only [Act.put, u1, u2, u3])
   refine tk 9 ⟨some 31, .pick (.tmp 27) (.const (Value.bool true)) (.tmp 30), 4, "laws.go:1584", #[⟨5, .data⟩, ⟨8, .data⟩], none⟩ ?_
   (try simp only [Act.put, u1, u2, u3])
   refine tk 10 ⟨some 32, .move (.tmp 31), 4, "laws.go:1584", #[⟨9, .data⟩, ⟨7, .chain⟩], none⟩ ?_
   (try simp only [Act.put, u1, u2, u3])
   refine tk 11 ⟨some 33, .move (.tmp 4), 2, "laws.go:1584", #[⟨10, .guard⟩], some (10, false)⟩ ?_
   (try simp only [Act.put, u1, u2, u3])
   refine tk 12 ⟨some 34, .binOp .lss 2 (.tmp 33) (.const (Value.int IntKind.i64 0)) 2, 4, "laws.go:1584", #[⟨11, .data⟩, ⟨10, .guard⟩], some (10, false)⟩ ?_
   (try simp only [Act.put, u1, u2, u3])
   refine tk 13 ⟨some 35, .pick (.tmp 32) (.const (Value.bool true)) (.tmp 34), 4, "laws.go:1584", #[⟨10, .data⟩, ⟨12, .data⟩], none⟩ ?_
   (try simp only [Act.put, u1, u2, u3])
   refine tk 14 ⟨some 36, .move (.tmp 35), 4, "laws.go:1584", #[⟨13, .data⟩, ⟨10, .chain⟩], none⟩ ?_
   (try simp only [Act.put, u1, u2, u3])
   refine tk 15 ⟨some 37, .move (.tmp 4), 2, "laws.go:1584", #[⟨14, .guard⟩], some (14, false)⟩ ?_
   (try simp only [Act.put, u1, u2, u3])
   refine tk 16 ⟨some 38, .binOp .geq 2 (.tmp 37) (.const (Value.int IntKind.i64 4)) 2, 4, "laws.go:1584", #[⟨15, .data⟩, ⟨14, .guard⟩], some (14, false)⟩ ?_
   (try simp only [Act.put, u1, u2, u3])
   refine tk 17 ⟨some 39, .pick (.tmp 36) (.const (Value.bool true)) (.tmp 38), 4, "laws.go:1584", #[⟨14, .data⟩, ⟨16, .data⟩], none⟩ ?_
   (try simp only [Act.put, u1, u2, u3])
   refine wpAnyH_done (by kernel_rfl) ?_ _
  rotate_left
  all_goals
   go_wp2_with fail
   obtain ⟨w6, fK⟩ : ∃ z, w5.drew = z := ⟨_, rfl⟩; have hb : Below w5.heap.size w5 w6 := by rw [← fK]; exact ⟨rfl, rfl, rfl, Nat.le_refl _, fun _ _ => rfl⟩
   have hs6 := hb.size; have uU := eQ hb zJ; have uX := eR hb zQ; have eN := fC hb oX; have W7 := jP hb G9; have rL := cK hb rM; have zH := cK hb L4; clear hb zJ zQ oX G9 rM L4; have hS : w6.cell? ⟨w0.heap.size, 0, none⟩ = some (.slice fE 4 fD) ∧ w6.cell? ⟨w0.heap.size, 1, none⟩ = some (.slice fG l.length fF) := ⟨(pair_cells rL.out).1, (pair_cells rL.out).2⟩; refine wp_region_held_drew (S := fun w' => w'.cell? ⟨w0.heap.size, 0, none⟩ = some (.slice fE 4 fD) ∧ w'.cell? ⟨w0.heap.size, 1, none⟩ = some (.slice fG l.length fF)) (by kernel_rfl) (by rw [fK]; exact hS) (fun aL => ?_)
   rw [fK]; clear aL fK; refine tk 0 ⟨some 40, .load 27 (.tmp 3), 27, "laws.go:1585", #[], none⟩ ?_
   (try simp only [Act.put, u1, u2, u3])
   refine tk 2 ⟨some 42, .load 27 (.tmp 3), 27, "laws.go:1585", #[], none⟩ ?_
   (try simp only [Act.put, u1, u2, u3])
   refine rk 1 rfl (fun K hK => ?_)
   go_simp
   go_at_call 23
   refine (iZ w6 w6.heap.size fE fG 4 fD l.length fF xs l (uU.out.more (by omega)) (uX.out.more (by omega)) aPq (by omega) iJ.out.1 ⟨by omega, iJ.out.2.1⟩).mono ?_
   rintro e w7 ⟨rfl, hb⟩; rw [jU.out]; have hs7 := hb.size; have uT := eQ hb uU; have uV := eR hb uX; have D3 := fC hb eN; have W6 := jP hb W7; have rK := cK hb rL; have zG := cK hb zH; clear hb uU uX eN W7 rL zH; have eD : w7.cell? ⟨w0.heap.size, 0, none⟩ = some (.slice fE 4 fD) ∧ w7.cell? ⟨w0.heap.size, 1, none⟩ = some (.slice fG l.length fF) := ⟨(pair_cells rK.out).1, (pair_cells rK.out).2⟩; refine hK.out _ _ eD (fun dQ => ?_)
   clear hK K
   (try simp only [Act.put, u1, u2, u3])
   clear dQ; refine rk 3 rfl (fun K hK => ?_)
   go_simp
   go_at_call 36
   refine (iW w7 w7.heap.size fE fG 4 fD l.length fF xs l (uT.out.more (by omega)) (uV.out.more (by omega)) aPq (by omega) (by omega) j3.out).mono ?_
   rintro e w8 ⟨rfl, hb⟩; rw [jU.out]; have hs8 := hb.size; have zI := eQ hb uT; have zP := eR hb uV; have HB8 := fC hb D3; have W5 := jP hb W6; have oD := cK hb rK; have r9 := cK hb zG; clear hb uT uV D3 W6 rK zG; have hS4 : w8.cell? ⟨w0.heap.size, 0, none⟩ = some (.slice fE 4 fD) ∧ w8.cell? ⟨w0.heap.size, 1, none⟩ = some (.slice fG l.length fF) := ⟨(pair_cells oD.out).1, (pair_cells oD.out).2⟩; refine hK.out _ _ hS4 (fun jN => ?_)
   clear hK K
   (try simp only [Act.put, u1, u2, u3])
   clear jN; refine tk 4 ⟨some 44, .binOp .eql 4 (.tmp 41) (.tmp 43) 4, 4, "laws.go:1585", #[⟨1, .data⟩, ⟨3, .data⟩], none⟩ ?_
   (try simp only [Act.put, u1, u2, u3])
   refine tk 5 ⟨some 2, .assign (.tmp 44), 4, "laws.go:1585", #[⟨4, .data⟩, ⟨3, .chain⟩, ⟨0, .phase⟩, ⟨1, .phase⟩, ⟨2, .phase⟩, ⟨3, .phase⟩, ⟨4, .phase⟩], none⟩ ?_
   (try simp only [Act.put, u1, u2, u3])
   refine wpAnyH_done (by kernel_rfl) ?_ _
   go_wp2
   go_ret
   exact ⟨rfl, HB8.out⟩
 obtain ⟨hcb, aC9, p6⟩ := vO
 subst hcb
 have aIx : decide (dev < 0) = false := decide_eq_false (by omega)
 have aIw : decide (4 ≤ dev) = false := decide_eq_false (by omega)
 have hd0 : ¬ dev < 0 := by omega
 have N4 : ¬ 4 ≤ dev := by omega
 refine tk 8 ⟨some 30, .unOp .not 4 (.tmp 29), 4, "laws.go:1584", #[⟨7, .data⟩, ⟨5, .guard⟩], some (5, false)⟩ ?_
 (try simp only [Act.put, u1, u2, u3])
 refine tk 9 ⟨some 31, .pick (.tmp 27) (.const (Value.bool true)) (.tmp 30), 4, "laws.go:1584", #[⟨5, .data⟩, ⟨8, .data⟩], none⟩ ?_
 (try simp only [Act.put, u1, u2, u3])
 refine tk 10 ⟨some 32, .move (.tmp 31), 4, "laws.go:1584", #[⟨9, .data⟩, ⟨7, .chain⟩], none⟩ ?_
 (try simp only [Act.put, u1, u2, u3])
 refine tk 11 ⟨some 33, .move (.tmp 4), 2, "laws.go:1584", #[⟨10, .guard⟩], some (10, false)⟩ ?_
 (try simp only [Act.put, u1, u2, u3])
 refine tk 12 ⟨some 34, .binOp .lss 2 (.tmp 33) (.const (Value.int IntKind.i64 0)) 2, 4, "laws.go:1584", #[⟨11, .data⟩, ⟨10, .guard⟩], some (10, false)⟩ ?_
 (try simp only [Act.put, u1, u2, u3])
 refine tk 13 ⟨some 35, .pick (.tmp 32) (.const (Value.bool true)) (.tmp 34), 4, "laws.go:1584", #[⟨10, .data⟩, ⟨12, .data⟩], none⟩ ?_
 (try simp only [Act.put, u1, u2, u3])
 refine tk 14 ⟨some 36, .move (.tmp 35), 4, "laws.go:1584", #[⟨13, .data⟩, ⟨10, .chain⟩], none⟩ ?_
 (try simp only [Act.put, u1, u2, u3])
 refine tk 15 ⟨some 37, .move (.tmp 4), 2, "laws.go:1584", #[⟨14, .guard⟩], some (14, false)⟩ ?_
 (try simp only [Act.put, u1, u2, u3])
 refine tk 16 ⟨some 38, .binOp .geq 2 (.tmp 37) (.const (Value.int IntKind.i64 4)) 2, 4, "laws.go:1584", #[⟨15, .data⟩, ⟨14, .guard⟩], some (14, false)⟩ ?_
 (try simp only [Act.put, u1, u2, u3])
 refine tk 17 ⟨some 39, .pick (.tmp 36) (.const (Value.bool true)) (.tmp 38), 4, "laws.go:1584", #[⟨14, .data⟩, ⟨16, .data⟩], none⟩ ?_
 (try simp only [Act.put, u1, u2, u3])
 refine wpAnyH_done (by kernel_rfl) ?_ _
 have jI : 0 ≤ dev ∧ dev ≤ 3 := ⟨aC9, p6⟩
 clear hd0 aIx N4 aIw aC9 p6 aT
 obtain ⟨NN, hNN⟩ : ∃ x, cF xs l = x := ⟨_, rfl⟩
 have HNN := aPo hNN
 have Z6 : NN.length ≤ 160 := by rw [← hNN]; exact sQ
 clear hNN
 obtain ⟨c00, c01⟩ := pair_cells rM.out
 go_wp2_with fail
 have hc := aGX w5 w5.heap.size fE fG 4 fD l.length fF xs l (zJ.out.more (by omega)) (zQ.out.more (by omega)) aPq (by omega) iJ.out.1 ⟨(by omega), iJ.out.2.1⟩ (uK j3.out)
 unfold aB4 at hc
 rw [HNN.out] at hc
 refine hc.mono ?_
 clear hc
 rintro e w6 ⟨ra, rc, rfl, hks, hb⟩
 clear c00 c01
 have hs6 := hb.size
 have uU := eQ hb zJ
 have uX := eR hb zQ
 have eN := fC hb oX
 have W7 := jP hb G9
 have rL := cK hb rM
 have zH := cK hb L4
 clear hb zJ zQ oX G9 rM L4
 have HS6 := aPo hks.strs
 clear hks
 go_wp2
 go_loopw [7] (fun i wr => ∃ q : Nat, q ≤ NN.length ∧ i = .int .i64 (q : Int) ∧ Hid (Below w6.heap.size w6 wr)) (fun i _ => NN.length - (intOf i).toNat)
 case atStart => exact ⟨0, Nat.zero_le _, rfl, Below.refl _ _⟩
 case round =>
  obtain ⟨q, hq, rfl, cW⟩ := hrel; have hsr := cW.out.size
  by_cases aJ : q < NN.length
  rotate_left
  ·have bQ := aPo (eN.out.trans (cW.out.mono (by have := eN.out.size; omega)))
   go_wp2
   go_ret
   exact ⟨rfl, bQ.out⟩
  have hki : (q : Int) < (NN.length : Int) := by omega
  have cS := cW; have hb : Below w6.heap.size w6 wr := cW.out; obtain ⟨w7, hwr⟩ : ∃ z, z = wr := ⟨_, rfl⟩; subst hwr; have hs7 := hb.size; have uT := eQ hb uU; have uV := eR hb uX; have D3 := fC hb eN; have W6 := jP hb W7; have rK := cK hb rL; have zG := cK hb zH; have HS7 := aPo (HS6.out.below hb (by omega))
  clear hb uU uX eN W7 rL zH HS6; have aBA := cS; clear cS cW; obtain ⟨b, off, F4, aT, qD⟩ := HS7.out.2 q aJ; subst F4; obtain ⟨x, hx⟩ : ∃ x, NN.getD q ⟨#[]⟩ = x := ⟨_, rfl⟩; rw [hx] at qD; have hxm : x ∈ cF xs l := by
   rw [HNN.out, ← hx, List.getD_eq_getElem?_getD, List.getElem?_eq_getElem aJ]; exact List.getElem_mem aJ
  have hxo := (jF jU.out x).1 hxm; have F2 : x.size ≤ 1048576 := by
   have h := xF jU.out hxo; unfold fJ at h; rw [Bool.and_eq_true] at h; have := of_decide_eq_true h.1; omega
  have tI := aPo F2; have HXo := aPo hxo; have aAG := aPo qD; clear hx qD hxm hxo F2; obtain ⟨⟨k, zs, m⟩, hN⟩ : ∃ N, dI xs l dev 3 x 0 0 0 = N := ⟨_, rfl⟩; have HN := aPo hN; obtain ⟨hlz, hlm, hin, lY⟩ := vC hN; have HI := aPo hin; have HCt := aPo lY; clear hN hin lY; obtain ⟨⟨k2, ys, n2⟩, hN⟩ : ∃ N, dI zs m dev 1 x 8 0 0 = N := ⟨_, rfl⟩; have HM := aPo hN; obtain ⟨aNM, aNP, hin, lY⟩ := vC hN; have oL := aPo hin; have aOo := aPo lY; clear hN hin lY; have F4 := aE4 jU.out jI HXo.out (q := 8) ⟨by omega, by omega⟩ HN.out HM.out
  dsimp only at F4
  have zM := aPo F4; clear F4
  go_wp2_with fail
  obtain ⟨w8, fK⟩ : ∃ z, w7.drew = z := ⟨_, rfl⟩; have hb : Below w7.heap.size w7 w8 := by rw [← fK]; exact ⟨rfl, rfl, rfl, Nat.le_refl _, fun _ _ => rfl⟩
  have hs8 := hb.size; have zI := eQ hb uT; have zP := eR hb uV; have HB8 := fC hb D3; have W5 := jP hb W6; have oD := cK hb rK; have r9 := cK hb zG; have HS8 := aPo (HS7.out.below hb (by omega))
  have aD1 := fC hb aBA; have L3 := oU hb aAG; clear hb uT uV D3 W6 rK zG HS7 aBA aAG; have cQ : ∀ z, Below w8.heap.size w8 z → z.cell? ⟨w0.heap.size, 0, none⟩ = some (.slice fE 4 fD) ∧ z.cell? ⟨w0.heap.size, 1, none⟩ = some (.slice fG l.length fF) ∧ z.cell? ⟨b, off + q, none⟩ = some (.string x) := fun z hb => by
   have := hb.size; exact ⟨(pair_cells ((hb.block _ (bF oD.out)).trans oD.out)).1, (pair_cells ((hb.block _ (bF oD.out)).trans oD.out)).2, (hb.cell (p := ⟨b, off + q, none⟩) (by show b < _; omega)).trans L3.out⟩
  refine wp_region_held_drew (S := fun w' => w'.cell? ⟨w0.heap.size, 0, none⟩ = some (.slice fE 4 fD) ∧ w'.cell? ⟨w0.heap.size, 1, none⟩ = some (.slice fG l.length fF) ∧ w'.cell? ⟨b, off + q, none⟩ = some (.string x)) (by kernel_rfl) (by rw [fK]; exact cQ w8 (Below.refl _ _)) (fun aL => ?_)
  rw [fK]; clear aL fK; have bG := cQ w8 (Below.refl _ _); refine tk 0 ⟨some 54, .load 27 (.tmp 3), 27, "laws.go:1589", #[], none⟩ ?_
  (try simp only [Act.put, u1, u2, u3])
  refine tk 1 ⟨some 55, .move (.tmp 4), 2, "laws.go:1589", #[], none⟩ ?_
  (try simp only [Act.put, u1, u2, u3])
  refine tk 2 ⟨some 56, .move (.tmp 6), 55, "laws.go:1589", #[], none⟩ ?_
  (try simp only [Act.put, u1, u2, u3])
  refine tk 3 ⟨some 57, .move (.tmp 7), 3, "laws.go:1589", #[], none⟩ ?_
  (try simp only [Act.put, u1, u2, u3])
  refine tk 4 ⟨some 58, .indexAddr 55 (.tmp 56) (.tmp 57), 0, "laws.go:1589", #[⟨2, .data⟩, ⟨3, .data⟩], none⟩ ?_
  (try simp only [Act.put, u1, u2, u3])
  refine tk 5 ⟨some 59, .load 9 (.tmp 58), 9, "laws.go:1589", #[⟨4, .data⟩], none⟩ ?_
  (try simp only [Act.put, u1, u2, u3])
  refine tk 6 ⟨some 60, .build 29 #[(0, .const (Value.int IntKind.i64 3)), (1, .tmp 59)], 29, "laws.go:1589", #[⟨5, .data⟩], none⟩ ?_
  (try simp only [Act.put, u1, u2, u3])
  clear bG
  apply aAd (F := fun nW oZ oY pD pC wT => oR w8 zs m nW oZ oY pD pC wT)
  case h1 =>
   intro hT
   refine wpAnyH_ready (rs := [7, 11]) (by kernel_rfl) (by simp) ?_
   refine AllReadyH.cons rfl (fun K hK => ?_) (AllReadyH.cons rfl (fun K hK => ?_) AllReadyH.nil)
   ·go_simp
    go_at_call 17
    have hc := lV w8 w8.heap.size E (W5.out.more (by omega)) fE fG 4 fD l.length fF xs l dev 3 0 0 0 x (zI.out.more (by omega)) (zP.out.more (by omega)) aPq nM.out.1 iJ.out (by omega) (by omega) tI.out
    rw [HN.out] at hc; unfold wK at hc
    dsimp only at hc
    refine hc.mono ?_
    clear hc; rintro e y1 ⟨oZ, oY, pD, pC, bY, rfl, gW, eA, nQ, iN, bW, cB, t1⟩; refine hK.out _ _ (cQ y1 t1) (fun _ => ?_)
    clear hK K
    (try simp only [Act.put, u1, u2, u3])
    have bG := cQ y1 t1; refine tk 8 ⟨some 53, .move (.tmp 61), 32, "laws.go:1589", #[⟨7, .data⟩], none⟩ ?_
    (try simp only [Act.put, u1, u2, u3])
    refine tk 9 ⟨some 62, .extract (.tmp 53) 0, 27, "laws.go:1589", #[⟨8, .data⟩], none⟩ ?_
    (try simp only [Act.put, u1, u2, u3])
    refine tk 10 ⟨some 63, .extract (.tmp 53) 1, 2, "laws.go:1589", #[⟨8, .data⟩, { on := 12, ground := Ground.gcOnly Departure.lateStores }], none⟩ ?_
    (try simp only [Act.put, u1, u2, u3])
    refine rk 11 rfl (fun K hK => ?_)
    have hD := oR.first t1 gW eA nQ iN bW cB; have mB := cQ (y1.alloc (.cells #[.slice none 0 0, .slice none 0 0] 27)) hD.1
    go_simp
    refine hK.out _ _ mB (fun _ => ?_)
    clear hK K mB bG
    (try simp only [Act.put, u1, u2, u3])
    generalize y1.alloc (.cells #[.slice none 0 0, .slice none 0 0] 27) = wT at hD ⊢; clear gW eA nQ iN t1; generalize y1.heap.size = nW at hD ⊢; exact dA (l' := #[true, true, true, true, true, true, true, true, true, true, true, true, false, false]) (by kernel_rfl) (hT nW oZ oY pD pC wT hD)
   ·have t0 : Below w8.heap.size w8 (w8.alloc (.cells #[.slice none 0 0, .slice none 0 0] 27)) := bl
    have mB := cQ _ t0
    go_simp
    refine hK.out _ _ mB (fun _ => ?_)
    clear hK K mB
    (try simp only [Act.put, u1, u2, u3])
    obtain ⟨y0, iT⟩ : ∃ y, y = w8.alloc (.cells #[.slice none 0 0, .slice none 0 0] 27) := ⟨_, rfl⟩; rw [← iT] at t0 ⊢; have HYe := aPo iT; clear iT; have jW := t0.size; refine rk 7 rfl (fun K hK => ?_)
    have bG := cQ _ t0
    go_simp
    go_at_call 17
    have hc := lV y0 y0.heap.size E ((W5.out.below t0 (by omega)).more (by omega)) fE fG 4 fD l.length fF xs l dev 3 0 0 0 x ((zI.out.below t0 (by omega)).more (by omega)) ((zP.out.below t0 (by omega)).more (by omega)) aPq nM.out.1 iJ.out (by omega) (by omega) tI.out
    rw [HN.out] at hc; unfold wK at hc
    dsimp only at hc
    refine hc.mono ?_
    clear hc; rintro e y1 ⟨oZ, oY, pD, pC, bY, rfl, gW, eA, nQ, iN, bW, cB, t1⟩; have hD := oR.behind HYe.out t1 gW eA nQ iN bW cB; clear bG; refine hK.out _ _ (cQ y1 hD.1) (fun _ => ?_)
    clear hK K
    (try simp only [Act.put, u1, u2, u3])
    have bG := cQ y1 hD.1; refine tk 8 ⟨some 53, .move (.tmp 61), 32, "laws.go:1589", #[⟨7, .data⟩], none⟩ ?_
    (try simp only [Act.put, u1, u2, u3])
    refine tk 9 ⟨some 62, .extract (.tmp 53) 0, 27, "laws.go:1589", #[⟨8, .data⟩], none⟩ ?_
    (try simp only [Act.put, u1, u2, u3])
    refine tk 10 ⟨some 63, .extract (.tmp 53) 1, 2, "laws.go:1589", #[⟨8, .data⟩, { on := 12, ground := Ground.gcOnly Departure.lateStores }], none⟩ ?_
    (try simp only [Act.put, u1, u2, u3])
    clear bG; exact dA (l' := #[true, true, true, true, true, true, true, true, true, true, true, true, false, false]) (by kernel_rfl) (hT _ oZ oY pD pC y1 hD)
  case h2 =>
   intro oF tN tM tQ tP wT hD
   have dF := hD.store rfl; have aDZ := aPo hD.2.2.2.2.2.1; have v8 := aPo hD.2.2.2.2.2.2.1; have aNU := hD.2.1; obtain ⟨c0, c1⟩ := pair_cells hD.2.2.1; obtain ⟨f0, f1⟩ := aB hD.2.2.1; clear hD; have bG := cQ _ dF.1; refine rk 12 rfl (fun K hK => ?_)
   go_simp
   refine hK.out _ _ bG (fun _ => ?_)
   clear hK K c0 c1 f0 f1
   (try simp only [Act.put, u1, u2, u3])
   generalize (wT.setCell ⟨oF, 0, none⟩ (.slice tN zs.length tM)).setCell ⟨oF, 1, none⟩ (.slice tQ m.length tP) = w9 at dF bG ⊢; refine tk 13 ⟨some 9, .assign (.tmp 63), 2, "laws.go:1589", #[⟨10, .data⟩, ⟨12, .chain⟩, ⟨0, .phase⟩, ⟨1, .phase⟩, ⟨2, .phase⟩, ⟨3, .phase⟩, ⟨4, .phase⟩, ⟨5, .phase⟩, ⟨6, .phase⟩, ⟨7, .phase⟩, ⟨8, .phase⟩, ⟨9, .phase⟩, ⟨10, .phase⟩, ⟨11, .phase⟩, ⟨12, .phase⟩], none⟩ ?_
   (try simp only [Act.put, u1, u2, u3])
   refine wpAnyH_done (by kernel_rfl) ?_ _
   clear bG cQ; obtain ⟨hb, qR, T2, S9⟩ := dF; have qE := hb.size; have aDD := eQ hb zI; have aDM := eR hb zP; have D2 := fC hb HB8; have HE9 := jP hb W5; have aDB := cK hb oD; have aDw := cK hb r9; have HS9 := aPo (HS8.out.below hb (by omega))
   have aD0 := fC hb aD1; have aAF := oU hb L3; clear hb zI zP HB8 W5 oD r9 HS8 aD1 L3; have aDA := aPo qR; have aDC := aPo T2; have aDL := aPo S9; clear qR T2 S9
   go_wp2_with fail
   obtain ⟨oE, fK⟩ : ∃ z, w9.drew = z := ⟨_, rfl⟩; have hb : Below w9.heap.size w9 oE := by rw [← fK]; exact ⟨rfl, rfl, rfl, Nat.le_refl _, fun _ _ => rfl⟩
   have aNx := hb.size; have aAW := eQ hb aDD; have aA2 := eR hb aDM; have aD4 := fC hb D2; have M2 := jP hb HE9; have aAQ := cK hb aDB; have aAJ := cK hb aDw; have aL8 := aPo (HS9.out.below hb (by omega))
   have aA4 := fC hb aD0; have zF := oU hb aAF; have pZ := cK hb aDA; have xM := eQ hb aDC; have xO := eR hb aDL; clear hb aDD aDM D2 HE9 aDB aDw HS9 aD0 aAF aDA aDC aDL; have cQ : ∀ z, Below oE.heap.size oE z → z.cell? ⟨oF, 0, none⟩ = some (.slice tN zs.length tM) ∧ z.cell? ⟨oF, 1, none⟩ = some (.slice tQ m.length tP) ∧ z.cell? ⟨b, off + q, none⟩ = some (.string x) := fun z hb => by
    have := hb.size; exact ⟨(pair_cells ((hb.block _ (bF pZ.out)).trans pZ.out)).1, (pair_cells ((hb.block _ (bF pZ.out)).trans pZ.out)).2, (hb.cell (p := ⟨b, off + q, none⟩) (by show b < _; omega)).trans zF.out⟩
   refine wp_region_held_drew (S := fun w' => w'.cell? ⟨oF, 0, none⟩ = some (.slice tN zs.length tM) ∧ w'.cell? ⟨oF, 1, none⟩ = some (.slice tQ m.length tP) ∧ w'.cell? ⟨b, off + q, none⟩ = some (.string x)) (by kernel_rfl) (by rw [fK]; exact cQ oE (Below.refl _ _)) (fun aL => ?_)
   rw [fK]; clear aL fK; have bG := cQ oE (Below.refl _ _); refine tk 0 ⟨some 65, .load 27 (.tmp 8), 27, "laws.go:1590", #[], none⟩ ?_
   (try simp only [Act.put, u1, u2, u3])
   refine tk 1 ⟨some 66, .move (.tmp 4), 2, "laws.go:1590", #[], none⟩ ?_
   (try simp only [Act.put, u1, u2, u3])
   refine tk 2 ⟨some 67, .move (.tmp 6), 55, "laws.go:1590", #[], none⟩ ?_
   (try simp only [Act.put, u1, u2, u3])
   refine tk 3 ⟨some 68, .move (.tmp 7), 3, "laws.go:1590", #[], none⟩ ?_
   (try simp only [Act.put, u1, u2, u3])
   refine tk 4 ⟨some 69, .indexAddr 55 (.tmp 67) (.tmp 68), 0, "laws.go:1590", #[⟨2, .data⟩, ⟨3, .data⟩], none⟩ ?_
   (try simp only [Act.put, u1, u2, u3])
   refine tk 5 ⟨some 70, .load 9 (.tmp 69), 9, "laws.go:1590", #[⟨4, .data⟩], none⟩ ?_
   (try simp only [Act.put, u1, u2, u3])
   refine tk 6 ⟨some 71, .build 29 #[(0, .const (Value.int IntKind.i64 1)), (1, .tmp 70), (2, .const (Value.int IntKind.i64 8))], 29, "laws.go:1590", #[⟨5, .data⟩], none⟩ ?_
   (try simp only [Act.put, u1, u2, u3])
   clear bG
   apply aAd (F := fun nW oZ oY pD pC wT => oR oE ys n2 nW oZ oY pD pC wT)
   case h1 =>
    intro hT
    refine wpAnyH_ready (rs := [7, 11]) (by kernel_rfl) (by simp) ?_
    refine AllReadyH.cons rfl (fun K hK => ?_) (AllReadyH.cons rfl (fun K hK => ?_) AllReadyH.nil)
    ·go_simp
     go_at_call 17
     have hc := lV oE oE.heap.size E (M2.out.more (by omega)) tN tQ zs.length tM m.length tP zs m dev 1 8 0 0 x (xM.out.more (by omega)) (xO.out.more (by omega)) aPq aDZ.out.1 v8.out (by omega) (by omega) tI.out
     rw [HM.out] at hc; unfold wK at hc
     dsimp only at hc
     refine hc.mono ?_
     clear hc; rintro e y1 ⟨oZ, oY, pD, pC, bY, rfl, gW, eA, nQ, iN, bW, cB, t1⟩; refine hK.out _ _ (cQ y1 t1) (fun _ => ?_)
     clear hK K
     (try simp only [Act.put, u1, u2, u3])
     have bG := cQ y1 t1; refine tk 8 ⟨some 64, .move (.tmp 72), 32, "laws.go:1590", #[⟨7, .data⟩], none⟩ ?_
     (try simp only [Act.put, u1, u2, u3])
     refine tk 9 ⟨some 73, .extract (.tmp 64) 0, 27, "laws.go:1590", #[⟨8, .data⟩], none⟩ ?_
     (try simp only [Act.put, u1, u2, u3])
     refine tk 10 ⟨some 74, .extract (.tmp 64) 1, 2, "laws.go:1590", #[⟨8, .data⟩, { on := 12, ground := Ground.gcOnly Departure.lateStores }], none⟩ ?_
     (try simp only [Act.put, u1, u2, u3])
     refine rk 11 rfl (fun K hK => ?_)
     have hD := oR.first t1 gW eA nQ iN bW cB; have mB := cQ (y1.alloc (.cells #[.slice none 0 0, .slice none 0 0] 27)) hD.1
     go_simp
     refine hK.out _ _ mB (fun _ => ?_)
     clear hK K mB bG
     (try simp only [Act.put, u1, u2, u3])
     generalize y1.alloc (.cells #[.slice none 0 0, .slice none 0 0] 27) = wT at hD ⊢; clear gW eA nQ iN t1; generalize y1.heap.size = nW at hD ⊢; exact dA (l' := #[true, true, true, true, true, true, true, true, true, true, true, true, false, false]) (by kernel_rfl) (hT nW oZ oY pD pC wT hD)
    ·have t0 : Below oE.heap.size oE (oE.alloc (.cells #[.slice none 0 0, .slice none 0 0] 27)) := bl
     have mB := cQ _ t0
     go_simp
     refine hK.out _ _ mB (fun _ => ?_)
     clear hK K mB
     (try simp only [Act.put, u1, u2, u3])
     obtain ⟨y0, iT⟩ : ∃ y, y = oE.alloc (.cells #[.slice none 0 0, .slice none 0 0] 27) := ⟨_, rfl⟩; rw [← iT] at t0 ⊢; have HYe := aPo iT; clear iT; have jW := t0.size; refine rk 7 rfl (fun K hK => ?_)
     have bG := cQ _ t0
     go_simp
     go_at_call 17
     have hc := lV y0 y0.heap.size E ((M2.out.below t0 (by omega)).more (by omega)) tN tQ zs.length tM m.length tP zs m dev 1 8 0 0 x ((xM.out.below t0 (by omega)).more (by omega)) ((xO.out.below t0 (by omega)).more (by omega)) aPq aDZ.out.1 v8.out (by omega) (by omega) tI.out
     rw [HM.out] at hc; unfold wK at hc
     dsimp only at hc
     refine hc.mono ?_
     clear hc; rintro e y1 ⟨oZ, oY, pD, pC, bY, rfl, gW, eA, nQ, iN, bW, cB, t1⟩; have hD := oR.behind HYe.out t1 gW eA nQ iN bW cB; clear bG; refine hK.out _ _ (cQ y1 hD.1) (fun _ => ?_)
     clear hK K
     (try simp only [Act.put, u1, u2, u3])
     have bG := cQ y1 hD.1; refine tk 8 ⟨some 64, .move (.tmp 72), 32, "laws.go:1590", #[⟨7, .data⟩], none⟩ ?_
     (try simp only [Act.put, u1, u2, u3])
     refine tk 9 ⟨some 73, .extract (.tmp 64) 0, 27, "laws.go:1590", #[⟨8, .data⟩], none⟩ ?_
     (try simp only [Act.put, u1, u2, u3])
     refine tk 10 ⟨some 74, .extract (.tmp 64) 1, 2, "laws.go:1590", #[⟨8, .data⟩, { on := 12, ground := Ground.gcOnly Departure.lateStores }], none⟩ ?_
     (try simp only [Act.put, u1, u2, u3])
     clear bG; exact dA (l' := #[true, true, true, true, true, true, true, true, true, true, true, true, false, false]) (by kernel_rfl) (hT _ oZ oY pD pC y1 hD)
   case h2 =>
    intro qO B5 B4 B7 B6 wT hD
    have dF := hD.store rfl; have aOn := aPo hD.2.2.2.2.2.1; have x5 := aPo hD.2.2.2.2.2.2.1; have aNV := hD.2.1; obtain ⟨c0, c1⟩ := pair_cells hD.2.2.1; obtain ⟨f0, f1⟩ := aB hD.2.2.1; clear hD; have bG := cQ _ dF.1; refine rk 12 rfl (fun K hK => ?_)
    go_simp
    refine hK.out _ _ bG (fun _ => ?_)
    clear hK K c0 c1 f0 f1
    (try simp only [Act.put, u1, u2, u3])
    generalize (wT.setCell ⟨qO, 0, none⟩ (.slice B5 ys.length B4)).setCell ⟨qO, 1, none⟩ (.slice B7 n2.length B6) = w11 at dF bG ⊢; refine tk 13 ⟨some 11, .assign (.tmp 74), 2, "laws.go:1590", #[⟨10, .data⟩, ⟨12, .chain⟩, ⟨0, .phase⟩, ⟨1, .phase⟩, ⟨2, .phase⟩, ⟨3, .phase⟩, ⟨4, .phase⟩, ⟨5, .phase⟩, ⟨6, .phase⟩, ⟨7, .phase⟩, ⟨8, .phase⟩, ⟨9, .phase⟩, ⟨10, .phase⟩, ⟨11, .phase⟩, ⟨12, .phase⟩], none⟩ ?_
    (try simp only [Act.put, u1, u2, u3])
    refine wpAnyH_done (by kernel_rfl) ?_ _
    clear bG cQ; obtain ⟨hb, qR, T2, S9⟩ := dF; have aNw := hb.size; have aAV := eQ hb aAW; have aA1 := eR hb aA2; have aD3 := fC hb aD4; have aDU := jP hb M2; have aAP := cK hb aAQ; have aAI := cK hb aAJ; have aL7 := aPo (aL8.out.below hb (by omega))
    have xP := fC hb aA4; have U7 := oU hb zF; have aAL := cK hb pZ; have aAS := eQ hb xM; have aAY := eR hb xO; clear hb aAW aA2 aD4 M2 aAQ aAJ aL8 aA4 zF pZ xM xO; have aAN := aPo qR; have aAT := aPo T2; have aAZ := aPo S9; clear qR T2 S9; rcases zM.out.1 with hk | hk
    ·have hk := hk
     subst hk; have H6 := xP; go_wp2
     go_roundw
     case rel => exact ⟨q + 1, by omega, by go_num, H6⟩
     case measure => simp [intOf]; omega
    subst hk; obtain ⟨hk2, aLx⟩ := zM.out.2 rfl; have aOm := aPo aLx; clear aLx; rcases hk2 with hk2 | hk2
    ·have hk2 := hk2
     subst hk2; have H6 := xP; go_wp2
     go_roundw
     case rel => exact ⟨q + 1, by omega, by go_num, H6⟩
     case measure => simp [intOf]; omega
    subst hk2; obtain ⟨aLE, aLu, aLv⟩ := aOm.out rfl; have aOr := aPo aLE; have aOi := aPo aLu; have aOk := aPo aLv; clear aLE aLu aLv
    go_wp2_with fail
    obtain ⟨eJ, fK⟩ : ∃ z, w11.drew = z := ⟨_, rfl⟩; have hb : Below w11.heap.size w11 eJ := by rw [← fK]; exact ⟨rfl, rfl, rfl, Nat.le_refl _, fun _ _ => rfl⟩
    have o8 := hb.size; have aAU := eQ hb aAV; have aA0 := eR hb aA1; have aD2 := fC hb aD3; have aDT := jP hb aDU; have L9 := cK hb aAP; have aAH := cK hb aAI; have aL6 := aPo (aL7.out.below hb (by omega))
    have aA3 := fC hb xP; have G4 := oU hb U7; have L5 := cK hb aAL; have aAR := eQ hb aAS; have aAX := eR hb aAY; have tH := cK hb aAN; have C2 := eQ hb aAT; have C4 := eR hb aAZ; clear hb aAV aA1 aD3 aDU aAP aAI aL7 xP U7 aAL aAS aAY aAN aAT aAZ; have cQ : ∀ z, Below eJ.heap.size eJ z → z.cell? ⟨qO, 0, none⟩ = some (.slice B5 ys.length B4) ∧ z.cell? ⟨qO, 1, none⟩ = some (.slice B7 n2.length B6) ∧ z.cell? ⟨b, off + q, none⟩ = some (.string x) := fun z hb => by
     have := hb.size; exact ⟨(pair_cells ((hb.block _ (bF tH.out)).trans tH.out)).1, (pair_cells ((hb.block _ (bF tH.out)).trans tH.out)).2, (hb.cell (p := ⟨b, off + q, none⟩) (by show b < _; omega)).trans G4.out⟩
    refine wp_region_held_drew (S := fun w' => w'.cell? ⟨qO, 0, none⟩ = some (.slice B5 ys.length B4) ∧ w'.cell? ⟨qO, 1, none⟩ = some (.slice B7 n2.length B6) ∧ w'.cell? ⟨b, off + q, none⟩ = some (.string x)) (by kernel_rfl) (by rw [fK]; exact cQ eJ (Below.refl _ _)) (fun aL => ?_)
    rw [fK]; clear aL fK; have bG := cQ eJ (Below.refl _ _); refine tk 0 ⟨some 82, .load 27 (.tmp 10), 27, "laws.go:1594", #[], none⟩ ?_
    (try simp only [Act.put, u1, u2, u3])
    refine tk 1 ⟨some 83, .move (.tmp 6), 55, "laws.go:1594", #[], none⟩ ?_
    (try simp only [Act.put, u1, u2, u3])
    refine tk 2 ⟨some 84, .move (.tmp 7), 3, "laws.go:1594", #[], none⟩ ?_
    (try simp only [Act.put, u1, u2, u3])
    refine tk 3 ⟨some 85, .indexAddr 55 (.tmp 83) (.tmp 84), 0, "laws.go:1594", #[⟨1, .data⟩, ⟨2, .data⟩], none⟩ ?_
    (try simp only [Act.put, u1, u2, u3])
    refine tk 4 ⟨some 86, .load 9 (.tmp 85), 9, "laws.go:1594", #[⟨3, .data⟩], none⟩ ?_
    (try simp only [Act.put, u1, u2, u3])
    clear bG
    apply aKV (F := fun nW o t wT => U4 ys n2 x o t ∧ Below eJ.heap.size eJ wT ∧ eJ.heap.size ≤ nW ∧ wT.heap[nW]? = some (.cells #[.string ⟨#[]⟩, .int .i64 0, .bool false] 39 (0, 0)))
    case h1 =>
     intro hT
     refine wpAnyH_ready (rs := [5, 9]) (by kernel_rfl) (by simp) ?_
     refine AllReadyH.cons rfl (fun K hK => ?_) (AllReadyH.cons rfl (fun K hK => ?_) AllReadyH.nil)
     ·go_simp
      go_at_call 25
      refine (aJm eJ eJ.heap.size B5 B7 ys.length B4 n2.length B6 ys n2 x (C2.out.more (by omega)) (C4.out.more (by omega)) aPq (by omega) x5.out.1 ⟨by omega, x5.out.2.1⟩ (uK oL.out)).mono ?_
      rintro e y1 ⟨o, t, rfl, hln, t1⟩; refine hK.out _ _ (cQ y1 t1) (fun _ => ?_)
      clear hK K
      (try simp only [Act.put, u1, u2, u3])
      have bG := cQ y1 t1; refine tk 6 ⟨some 81, .move (.tmp 87), 40, "laws.go:1594", #[⟨5, .data⟩], none⟩ ?_
      (try simp only [Act.put, u1, u2, u3])
      refine tk 7 ⟨some 88, .extract (.tmp 81) 0, 39, "laws.go:1594", #[⟨6, .data⟩], none⟩ ?_
      (try simp only [Act.put, u1, u2, u3])
      refine tk 8 ⟨some 89, .extract (.tmp 81) 1, 4, "laws.go:1594", #[⟨6, .data⟩, { on := 10, ground := Ground.gcOnly Departure.lateStores }], none⟩ ?_
      (try simp only [Act.put, u1, u2, u3])
      have t2 : Below y1.heap.size y1 (y1.alloc (.cells #[.string ⟨#[]⟩, .int .i64 0, .bool false] 39)) := bl; have hD : U4 ys n2 x o t ∧ Below eJ.heap.size eJ (y1.alloc (.cells #[.string ⟨#[]⟩, .int .i64 0, .bool false] 39)) ∧ eJ.heap.size ≤ y1.heap.size ∧ (y1.alloc (.cells #[.string ⟨#[]⟩, .int .i64 0, .bool false] 39)).heap[y1.heap.size]? = some (.cells #[.string ⟨#[]⟩, .int .i64 0, .bool false] 39 (0, 0)) := ⟨hln, t1.trans (t2.mono t1.size), t1.size, heap_alloc_new _ _⟩; refine rk 9 rfl (fun K hK => ?_)
      have mB := cQ (y1.alloc (.cells #[.string ⟨#[]⟩, .int .i64 0, .bool false] 39)) hD.2.1
      go_simp
      refine hK.out _ _ mB (fun _ => ?_)
      clear hK K mB bG t2
      (try simp only [Act.put, u1, u2, u3])
      generalize y1.alloc (.cells #[.string ⟨#[]⟩, .int .i64 0, .bool false] 39) = wT at hD ⊢; clear t1; generalize y1.heap.size = nW at hD ⊢; exact dA (l' := #[true, true, true, true, true, true, true, true, true, true, false, false]) (by kernel_rfl) (hT nW o t wT hD)
     ·have t0 : Below eJ.heap.size eJ (eJ.alloc (.cells #[.string ⟨#[]⟩, .int .i64 0, .bool false] 39)) := bl
      have qC := heap_alloc_new eJ (.cells #[.string ⟨#[]⟩, .int .i64 0, .bool false] 39); have mB := cQ _ t0
      go_simp
      refine hK.out _ _ mB (fun _ => ?_)
      clear hK K mB
      (try simp only [Act.put, u1, u2, u3])
      generalize eJ.alloc (.cells #[.string ⟨#[]⟩, .int .i64 0, .bool false] 39) = y0 at t0 qC ⊢; have jW := t0.size; have hyl := bF qC; refine rk 5 rfl (fun K hK => ?_)
      have bG := cQ _ t0
      go_simp
      go_at_call 25
      refine (aJm y0 y0.heap.size B5 B7 ys.length B4 n2.length B6 ys n2 x ((C2.out.below t0 (by omega)).more (by omega)) ((C4.out.below t0 (by omega)).more (by omega)) aPq (by omega) x5.out.1 ⟨by omega, x5.out.2.1⟩ (uK oL.out)).mono ?_
      rintro e y1 ⟨o, t, rfl, hln, t1⟩; have hD : U4 ys n2 x o t ∧ Below eJ.heap.size eJ y1 ∧ eJ.heap.size ≤ eJ.heap.size ∧ y1.heap[eJ.heap.size]? = some (.cells #[.string ⟨#[]⟩, .int .i64 0, .bool false] 39 (0, 0)) := ⟨hln, t0.trans (t1.mono jW), Nat.le_refl _, (t1.block _ hyl).trans qC⟩; clear bG; refine hK.out _ _ (cQ y1 hD.2.1) (fun _ => ?_)
      clear hK K
      (try simp only [Act.put, u1, u2, u3])
      have bG := cQ y1 hD.2.1; refine tk 6 ⟨some 81, .move (.tmp 87), 40, "laws.go:1594", #[⟨5, .data⟩], none⟩ ?_
      (try simp only [Act.put, u1, u2, u3])
      refine tk 7 ⟨some 88, .extract (.tmp 81) 0, 39, "laws.go:1594", #[⟨6, .data⟩], none⟩ ?_
      (try simp only [Act.put, u1, u2, u3])
      refine tk 8 ⟨some 89, .extract (.tmp 81) 1, 4, "laws.go:1594", #[⟨6, .data⟩, { on := 10, ground := Ground.gcOnly Departure.lateStores }], none⟩ ?_
      (try simp only [Act.put, u1, u2, u3])
      clear bG; exact dA (l' := #[true, true, true, true, true, true, true, true, true, true, false, false]) (by kernel_rfl) (hT _ o t y1 hD)
    case h2 =>
     intro noW o t wT hD
     obtain ⟨hln, hbT, hge, qR⟩ := hD; have Ho := aPo hln; obtain ⟨c0, c1, c2⟩ := Q7 qR; obtain ⟨f0, f1, f2⟩ := aCD qR; have dF := aCE (v0 := .string o.item) (v1 := .int .i64 o.qty) (v2 := .bool o.saved) hbT hge; have qR := aCC (v0 := .string o.item) (v1 := .int .i64 o.qty) (v2 := .bool o.saved) qR; have bG := cQ _ dF; clear hln hbT; refine rk 10 rfl (fun K hK => ?_)
     go_simp
     refine hK.out _ _ bG (fun _ => ?_)
     clear hK K c0 c1 c2 f0 f1 f2
     (try simp only [Act.put, u1, u2, u3])
     generalize ((wT.setCell ⟨noW, 0, none⟩ (.string o.item)).setCell ⟨noW, 1, none⟩ (.int .i64 o.qty)).setCell ⟨noW, 2, none⟩ (.bool o.saved) = O8 at dF qR bG ⊢; refine tk 11 ⟨some 13, .assign (.tmp 89), 4, "laws.go:1594", #[⟨8, .data⟩, ⟨10, .chain⟩, ⟨0, .phase⟩, ⟨1, .phase⟩, ⟨2, .phase⟩, ⟨3, .phase⟩, ⟨4, .phase⟩, ⟨5, .phase⟩, ⟨6, .phase⟩, ⟨7, .phase⟩, ⟨8, .phase⟩, ⟨9, .phase⟩, ⟨10, .phase⟩], none⟩ ?_
     (try simp only [Act.put, u1, u2, u3])
     refine wpAnyH_done (by kernel_rfl) ?_ _
     clear bG cQ; have hb := dF; clear dF; have aNv := hb.size; have aFL := eQ hb aAU; have aFV := eR hb aA0; have aJd := fC hb aD2; have aJc := jP hb aDT; have aAO := cK hb L9; have aFG := cK hb aAH; have aPk := aPo (aL6.out.below hb (by omega))
     have aCk := fC hb aA3; have aDq := oU hb G4; have aAK := cK hb L5; have aFI := eQ hb aAR; have aFR := eR hb aAX; have aAM := cK hb tH; have aFJ := eQ hb C2; have aFT := eR hb C4; clear hb aAU aA0 aD2 aDT L9 aAH aL6 aA3 G4 L5 aAR aAX tH C2 C4; have aL3 := aPo qR; clear qR; have ⟨e1, e2⟩ := Ho.out.yes aOr.out aOi.out; rw [aOk.out] at e2; subst e1 e2; obtain ⟨q0, q1, q2⟩ := Q7 aL3.out
     dsimp only at q0 q1 q2
     have H6 := aCk; go_wp2
     go_roundw
     case rel => exact ⟨q + 1, by omega, by go_num, H6⟩
     case measure => simp [intOf]; omega
end Go.Proofs.YthkagbnpcjidfaaGreatDoor
