/- Walks and mathematics that several claims share, part 33. -/
import Derived.Test.YtgagchlcafdiaaaGreatGb30
import Derived.Test.YtgagchlcafdiaaaGreatGb32
namespace Go.Proofs.YtgagchlcafdiaaaGreat
open Go.RowKit
open Go in
theorem lk33 {P : Program} {ops : Array Oper} {Q : Exit → Act → World → Prop} {md : Region.Mode} {S : World → Prop} {i : Nat} {oi : Oper} {v : Value} {fuel : Nat} {listed : Array Bool} {a : Act} {w : World} (hi : ops[i]? = some oi) (hd : (Region.wanted oi (yielded ops a.tmps) = true ∧ ∀ w, S w → (execOp a.eval oi).run P w = .ok (.value v) w) ∨ (Region.wanted oi (yielded ops a.tmps) = false ∧ v = undef)) (h : wpAnyH P md ops Q S fuel (listed.setIfInBounds i true) (a.put oi.dst v) w) (hs : Region.noSelect ops = true := by kernel_rfl) (hf : Region.free md ops listed i = true := by kernel_rfl) (hr : (Region.ready md ops listed).contains i = true := by kernel_rfl) (hQ : ∀ c a w, Q (.panic c) (a.put oi.dst v) w → Q (.panic c) a w := by exact fun _ _ _ h => h) (hS : S w := by assumption) : wpAnyH P md ops Q S (fuel + 1) listed a w := wpAnyH_take hi hs hf hr hQ hd hS h
set_option linter.unusedVariables false
set_option linter.unusedSimpArgs false

set_option maxRecDepth 100000 in
set_option maxHeartbeats 20000000 in
theorem specPrsOk (w : World) (B : Nat) (a : Option Addr) (n c : Nat) (l : List PrV) (h : Prs w B a n l) (hn : n ≤ 1048576) (hm : ∀ i, i < n → (atPr l i).item.size ≤ 1048576) :
  Calls Tryz.prog 15 #[.slice a n c] w fun e w' => e = .returned (.bool (PrsB l)) ∧ Below w.heap.size w w' := by
 have H := Lib.hid h
 have HM := Lib.hid hm
 have hl : l.length = n := h.1
 have HD : Hid (PrsB l = sortB n (Prok l) (Princ l)) := by show PrsB l = _; unfold PrsB; rw [hl]
 clear h hm hl
 go_enter Tryz.func15, Tryz.ntmps15
 go_wp2
 go_loopw [3] (fun i wr => ∃ k m : Nat, k ≤ n ∧ i = .int .i64 (k : Int) ∧ wr = w.drewN m ∧ Hid (∀ i, i < k → Prok l i = true) ∧ Hid (∀ i, i < k → Princ l i = true)) (fun i _ => n - (intOf i).toNat)
 case atStart => exact ⟨0, 0, Nat.zero_le _, rfl, rfl, fun i hi => absurd hi (by omega), fun i hi => absurd hi (by omega)⟩
 case round =>
  obtain ⟨k, m, hk, rfl, rfl, HO, HI⟩ := hrel
  by_cases hlt : k < n
  rotate_left
  ·obtain rfl : k = n := by omega
   have HF := Lib.hid (sort_lenB HO.out HI.out)
   go_wp2
   go_ret
   exact ⟨by rw [HD.out, HF.out]; exact ret_bool (by rw [Bool.eq_iff_iff]; simp; omega), rfl, rfl, rfl, Nat.le_refl _, fun _ _ => rfl⟩
  have hki : (k : Int) < (n : Int) := by omega
  have hk0 : (0 : Int) ≤ (k : Int) := by omega
  obtain ⟨b, off, hao, hb, ho⟩ := H.out.2 k hlt
  have hio := HM.out k hlt
  have HNo := Lib.hid (fun hh => sort_ok (inc := Princ l) (all_range_no (p := Prok l) (n := n) (i := k) hlt hh))
  have HNi := Lib.hid (fun hh => sort_inc (ok := Prok l) (all_range_no (p := Princ l) (n := n) (i := k) hlt hh))
  have HSo := Lib.hid (fun hh => allp_stepS HO.out (k := k) hh)
  have HSi := Lib.hid (fun hh => allp_stepS HI.out (k := k) hh)
  have HOk : Hid (Prok l k = (atPr l k).ok) := rfl
  have ho' : PrAt (w.drewN m).drew b (off + k * 2) (atPr l k) := ho.kept (w' := (w.drewN m).drew) rfl
  clear ho HO HI
  by_cases hz : k = 0
  ·have hzi : decide (0 < k) = false := decide_eq_false (by omega)
   have HZ := Lib.hid hz
   clear hz
   subst hao
   generalize atPr l k = x at hio HOk ho'
   obtain ⟨d0, d1⟩ := ho'
   rcases hit : itemB x.item with _ | _
   ·have Hit := Lib.hid hit
    have HB : Hid (x.ok = false) := by show x.ok = false; unfold PrV.ok; rw [hit]; rfl
    clear hit
    have hS : (w.drewN m).drew.cell? ⟨b, off + k * 2, none⟩ = some (.string x.item) ∧ (w.drewN m).drew.cell? ⟨b, off + k * 2 + 1, none⟩ = some (.int .i64 x.cents) := ⟨d0, d1⟩
    go_wp2_with fail
    refine wp_region_held_drew (S := fun w' => w'.cell? ⟨b, off + k * 2, none⟩ = some (.string x.item) ∧ w'.cell? ⟨b, off + k * 2 + 1, none⟩ = some (.int .i64 x.cents)) (by kernel_rfl) hS (fun hHeld => ?_)
    clear hHeld
    refine lk33 (i := 0) (oi := ⟨some 10, .move (.tmp 0), 25, "l12_prices.go:7", #[], none⟩) (v := ?_) rfl (Or.inl ⟨by rfl, ?_⟩) ?_
    rotate_left
    ·intro w hSw
     (try dsimp only at hSw)
     first | (go_simp; done) | (go_simp; with_reducible rfl)
    (try simp only [Act.put, List.setIfInBounds_toArray, List.set_cons_zero, List.set_cons_succ])
    refine lk33 (i := 1) (oi := ⟨some 11, .move (.tmp 3), 3, "l12_prices.go:7", #[], none⟩) (v := ?_) rfl (Or.inl ⟨by rfl, ?_⟩) ?_
    rotate_left
    ·intro w hSw
     (try dsimp only at hSw)
     first | (go_simp; done) | (go_simp; with_reducible rfl)
    (try simp only [Act.put, List.setIfInBounds_toArray, List.set_cons_zero, List.set_cons_succ])
    refine lk33 (i := 2) (oi := ⟨some 12, .indexAddr 25 (.tmp 10) (.tmp 11), 0, "l12_prices.go:7", #[⟨0, .data⟩, ⟨1, .data⟩], none⟩) (v := ?_) rfl (Or.inl ⟨by rfl, ?_⟩) ?_
    rotate_left
    ·intro w hSw
     (try dsimp only at hSw)
     first | (go_simp; done) | (go_simp; with_reducible rfl)
    (try simp only [Act.put, List.setIfInBounds_toArray, List.set_cons_zero, List.set_cons_succ])
    refine lk33 (i := 3) (oi := ⟨some 13, .fieldAddr 63 (.tmp 12) 0, 0, "l12_prices.go:7", #[⟨2, .data⟩], none⟩) (v := ?_) rfl (Or.inl ⟨by rfl, ?_⟩) ?_
    rotate_left
    ·intro w hSw
     (try dsimp only at hSw)
     first | (go_simp; done) | (go_simp; with_reducible rfl)
    (try simp only [Act.put, List.setIfInBounds_toArray, List.set_cons_zero, List.set_cons_succ])
    refine lk33 (i := 4) (oi := ⟨some 14, .load 9 (.tmp 13), 9, "l12_prices.go:7", #[⟨3, .data⟩], none⟩) (v := ?_) rfl (Or.inl ⟨by rfl, ?_⟩) ?_
    rotate_left
    ·intro w hSw
     (try dsimp only at hSw)
     first | (go_simp; done) | (go_simp; with_reducible rfl)
    (try simp only [Act.put, List.setIfInBounds_toArray, List.set_cons_zero, List.set_cons_succ])
    refine rk 5 rfl (fun K hK => ?_)
    go_simp
    go_at_call 33
    refine (l3Item x.item hio _).mono ?_
    rintro e w2 ⟨rfl, rfl⟩
    rw [Hit.out]
    refine hK.out _ _ hS (fun hHeld2 => ?_)
    clear hK K
    (try simp only [Act.put, List.setIfInBounds_toArray, List.set_cons_zero, List.set_cons_succ])
    refine lk33 (i := 6) (oi := ⟨some 16, .unOp .not 4 (.tmp 15), 4, "l12_prices.go:7", #[⟨5, .data⟩], none⟩) (v := ?_) rfl (Or.inl ⟨by rfl, ?_⟩) ?_
    rotate_left
    ·intro w hSw
     (try dsimp only at hSw)
     first | (go_simp; done) | (go_simp; with_reducible rfl)
    (try simp only [Act.put, List.setIfInBounds_toArray, List.set_cons_zero, List.set_cons_succ])
    refine lk33 (i := 7) (oi := ⟨some 17, .move (.tmp 16), 4, "l12_prices.go:7", #[⟨6, .data⟩, ⟨5, .chain⟩], none⟩) (v := ?_) rfl (Or.inl ⟨by rfl, ?_⟩) ?_
    rotate_left
    ·intro w hSw
     (try dsimp only at hSw)
     first | (go_simp; done) | (go_simp; with_reducible rfl)
    (try simp only [Act.put, List.setIfInBounds_toArray, List.set_cons_zero, List.set_cons_succ])
    refine lk33 (i := 8) (oi := ⟨some 18, .move (.tmp 0), 25, "l12_prices.go:7", #[⟨7, .guard⟩], some (7, false)⟩) (v := undef) rfl (Or.inr ⟨by rfl, rfl⟩) ?_
    (try simp only [Act.put, List.setIfInBounds_toArray, List.set_cons_zero, List.set_cons_succ])
    refine lk33 (i := 9) (oi := ⟨some 19, .move (.tmp 3), 3, "l12_prices.go:7", #[⟨7, .guard⟩], some (7, false)⟩) (v := undef) rfl (Or.inr ⟨by rfl, rfl⟩) ?_
    (try simp only [Act.put, List.setIfInBounds_toArray, List.set_cons_zero, List.set_cons_succ])
    refine lk33 (i := 10) (oi := ⟨some 20, .indexAddr 25 (.tmp 18) (.tmp 19), 0, "l12_prices.go:7", #[⟨8, .data⟩, ⟨9, .data⟩, ⟨7, .guard⟩], some (7, false)⟩) (v := undef) rfl (Or.inr ⟨by rfl, rfl⟩) ?_
    (try simp only [Act.put, List.setIfInBounds_toArray, List.set_cons_zero, List.set_cons_succ])
    refine lk33 (i := 11) (oi := ⟨some 21, .fieldAddr 63 (.tmp 20) 1, 0, "l12_prices.go:7", #[⟨10, .data⟩, ⟨7, .guard⟩], some (7, false)⟩) (v := undef) rfl (Or.inr ⟨by rfl, rfl⟩) ?_
    (try simp only [Act.put, List.setIfInBounds_toArray, List.set_cons_zero, List.set_cons_succ])
    refine lk33 (i := 12) (oi := ⟨some 22, .load 2 (.tmp 21), 2, "l12_prices.go:7", #[⟨11, .data⟩, ⟨7, .guard⟩], some (7, false)⟩) (v := undef) rfl (Or.inr ⟨by rfl, rfl⟩) ?_
    (try simp only [Act.put, List.setIfInBounds_toArray, List.set_cons_zero, List.set_cons_succ])
    refine lk33 (i := 13) (oi := ⟨some 23, .call ⟨.value (.func 34), #[.tmp 22, .const (Value.int IntKind.i64 1), .const (Value.int IntKind.i64 1000000)], #[2, 2, 2]⟩, 4, "l12_prices.go:7", #[⟨12, .data⟩, ⟨7, .chain⟩, ⟨7, .guard⟩], some (7, false)⟩) (v := undef) rfl (Or.inr ⟨by rfl, rfl⟩) ?_
    (try simp only [Act.put, List.setIfInBounds_toArray, List.set_cons_zero, List.set_cons_succ])
    refine lk33 (i := 14) (oi := ⟨some 24, .unOp .not 4 (.tmp 23), 4, "l12_prices.go:7", #[⟨13, .data⟩, ⟨7, .guard⟩], some (7, false)⟩) (v := undef) rfl (Or.inr ⟨by rfl, rfl⟩) ?_
    (try simp only [Act.put, List.setIfInBounds_toArray, List.set_cons_zero, List.set_cons_succ])
    refine lk33 (i := 15) (oi := ⟨some 25, .pick (.tmp 17) (.const (Value.bool true)) (.tmp 24), 4, "l12_prices.go:7", #[⟨7, .data⟩, ⟨14, .data⟩], none⟩) (v := ?_) rfl (Or.inl ⟨by rfl, ?_⟩) ?_
    rotate_left
    ·intro w hSw
     (try dsimp only at hSw)
     first | (go_simp; done) | (go_simp; with_reducible rfl)
    (try simp only [Act.put, List.setIfInBounds_toArray, List.set_cons_zero, List.set_cons_succ])
    refine lk33 (i := 16) (oi := ⟨some 26, .move (.tmp 25), 4, "l12_prices.go:7", #[⟨15, .data⟩, ⟨13, .chain⟩], none⟩) (v := ?_) rfl (Or.inl ⟨by rfl, ?_⟩) ?_
    rotate_left
    ·intro w hSw
     (try dsimp only at hSw)
     first | (go_simp; done) | (go_simp; with_reducible rfl)
    (try simp only [Act.put, List.setIfInBounds_toArray, List.set_cons_zero, List.set_cons_succ])
    refine lk33 (i := 17) (oi := ⟨some 27, .move (.tmp 3), 3, "l12_prices.go:7", #[⟨16, .guard⟩], some (16, false)⟩) (v := undef) rfl (Or.inr ⟨by rfl, rfl⟩) ?_
    (try simp only [Act.put, List.setIfInBounds_toArray, List.set_cons_zero, List.set_cons_succ])
    refine lk33 (i := 18) (oi := ⟨some 28, .binOp .gtr 3 (.tmp 27) (.const (Value.int IntKind.i64 0)) 3, 4, "l12_prices.go:7", #[⟨17, .data⟩, ⟨16, .guard⟩], some (16, false)⟩) (v := undef) rfl (Or.inr ⟨by rfl, rfl⟩) ?_
    (try simp only [Act.put, List.setIfInBounds_toArray, List.set_cons_zero, List.set_cons_succ])
    refine lk33 (i := 19) (oi := ⟨some 29, .move (.tmp 28), 4, "l12_prices.go:7", #[⟨18, .data⟩, ⟨16, .chain⟩, ⟨16, .guard⟩], some (16, false)⟩) (v := undef) rfl (Or.inr ⟨by rfl, rfl⟩) ?_
    (try simp only [Act.put, List.setIfInBounds_toArray, List.set_cons_zero, List.set_cons_succ])
    refine lk33 (i := 20) (oi := ⟨some 30, .move (.tmp 0), 25, "l12_prices.go:7", #[⟨19, .guard⟩], some (19, true)⟩) (v := undef) rfl (Or.inr ⟨by rfl, rfl⟩) ?_
    (try simp only [Act.put, List.setIfInBounds_toArray, List.set_cons_zero, List.set_cons_succ])
    refine lk33 (i := 21) (oi := ⟨some 31, .move (.tmp 3), 3, "l12_prices.go:7", #[⟨19, .guard⟩], some (19, true)⟩) (v := undef) rfl (Or.inr ⟨by rfl, rfl⟩) ?_
    (try simp only [Act.put, List.setIfInBounds_toArray, List.set_cons_zero, List.set_cons_succ])
    refine lk33 (i := 22) (oi := ⟨some 32, .binOp .sub 3 (.tmp 31) (.const (Value.int IntKind.i64 1)) 3, 3, "l12_prices.go:7", #[⟨21, .data⟩, ⟨19, .guard⟩], some (19, true)⟩) (v := undef) rfl (Or.inr ⟨by rfl, rfl⟩) ?_
    (try simp only [Act.put, List.setIfInBounds_toArray, List.set_cons_zero, List.set_cons_succ])
    refine lk33 (i := 23) (oi := ⟨some 33, .indexAddr 25 (.tmp 30) (.tmp 32), 0, "l12_prices.go:7", #[⟨20, .data⟩, ⟨22, .data⟩, ⟨19, .guard⟩], some (19, true)⟩) (v := undef) rfl (Or.inr ⟨by rfl, rfl⟩) ?_
    (try simp only [Act.put, List.setIfInBounds_toArray, List.set_cons_zero, List.set_cons_succ])
    refine lk33 (i := 24) (oi := ⟨some 34, .fieldAddr 63 (.tmp 33) 0, 0, "l12_prices.go:7", #[⟨23, .data⟩, ⟨19, .guard⟩], some (19, true)⟩) (v := undef) rfl (Or.inr ⟨by rfl, rfl⟩) ?_
    (try simp only [Act.put, List.setIfInBounds_toArray, List.set_cons_zero, List.set_cons_succ])
    refine lk33 (i := 25) (oi := ⟨some 35, .load 9 (.tmp 34), 9, "l12_prices.go:7", #[⟨24, .data⟩, ⟨19, .guard⟩], some (19, true)⟩) (v := undef) rfl (Or.inr ⟨by rfl, rfl⟩) ?_
    (try simp only [Act.put, List.setIfInBounds_toArray, List.set_cons_zero, List.set_cons_succ])
    refine lk33 (i := 26) (oi := ⟨some 36, .move (.tmp 0), 25, "l12_prices.go:7", #[⟨19, .guard⟩], some (19, true)⟩) (v := undef) rfl (Or.inr ⟨by rfl, rfl⟩) ?_
    (try simp only [Act.put, List.setIfInBounds_toArray, List.set_cons_zero, List.set_cons_succ])
    refine lk33 (i := 27) (oi := ⟨some 37, .move (.tmp 3), 3, "l12_prices.go:7", #[⟨19, .guard⟩], some (19, true)⟩) (v := undef) rfl (Or.inr ⟨by rfl, rfl⟩) ?_
    (try simp only [Act.put, List.setIfInBounds_toArray, List.set_cons_zero, List.set_cons_succ])
    refine lk33 (i := 28) (oi := ⟨some 38, .indexAddr 25 (.tmp 36) (.tmp 37), 0, "l12_prices.go:7", #[⟨26, .data⟩, ⟨27, .data⟩, ⟨19, .guard⟩], some (19, true)⟩) (v := undef) rfl (Or.inr ⟨by rfl, rfl⟩) ?_
    (try simp only [Act.put, List.setIfInBounds_toArray, List.set_cons_zero, List.set_cons_succ])
    refine lk33 (i := 29) (oi := ⟨some 39, .fieldAddr 63 (.tmp 38) 0, 0, "l12_prices.go:7", #[⟨28, .data⟩, ⟨19, .guard⟩], some (19, true)⟩) (v := undef) rfl (Or.inr ⟨by rfl, rfl⟩) ?_
    (try simp only [Act.put, List.setIfInBounds_toArray, List.set_cons_zero, List.set_cons_succ])
    refine lk33 (i := 30) (oi := ⟨some 40, .load 9 (.tmp 39), 9, "l12_prices.go:7", #[⟨29, .data⟩, ⟨19, .guard⟩], some (19, true)⟩) (v := undef) rfl (Or.inr ⟨by rfl, rfl⟩) ?_
    (try simp only [Act.put, List.setIfInBounds_toArray, List.set_cons_zero, List.set_cons_succ])
    refine lk33 (i := 31) (oi := ⟨some 41, .binOp .geq 9 (.tmp 35) (.tmp 40) 9, 4, "l12_prices.go:7", #[⟨25, .data⟩, ⟨30, .data⟩, ⟨19, .guard⟩], some (19, true)⟩) (v := undef) rfl (Or.inr ⟨by rfl, rfl⟩) ?_
    (try simp only [Act.put, List.setIfInBounds_toArray, List.set_cons_zero, List.set_cons_succ])
    refine lk33 (i := 32) (oi := ⟨some 42, .pick (.tmp 29) (.tmp 41) (.const (Value.bool false)), 4, "l12_prices.go:7", #[⟨19, .data⟩, ⟨31, .data⟩, ⟨16, .guard⟩], some (16, false)⟩) (v := undef) rfl (Or.inr ⟨by rfl, rfl⟩) ?_
    (try simp only [Act.put, List.setIfInBounds_toArray, List.set_cons_zero, List.set_cons_succ])
    refine lk33 (i := 33) (oi := ⟨some 43, .pick (.tmp 26) (.const (Value.bool true)) (.tmp 42), 4, "l12_prices.go:7", #[⟨16, .data⟩, ⟨32, .data⟩], none⟩) (v := ?_) rfl (Or.inl ⟨by rfl, ?_⟩) ?_
    rotate_left
    ·intro w hSw
     (try dsimp only at hSw)
     first | (go_simp; done) | (go_simp; with_reducible rfl)
    (try simp only [Act.put, List.setIfInBounds_toArray, List.set_cons_zero, List.set_cons_succ])
    refine wpAnyH_done (by kernel_rfl) ?_ _
    have HF := Lib.hid (HNo.out (HOk.out.trans HB.out))
    go_wp2
    go_ret
    exact ⟨by rw [HD.out, HF.out]; rfl, rfl, rfl, rfl, Nat.le_refl _, fun _ _ => rfl⟩
   have Hit := Lib.hid hit
   rcases hrg : inB x.cents 1 1000000 with _ | _
   ·have Hrg := Lib.hid hrg
    have HB : Hid (x.ok = false) := by show x.ok = false; unfold PrV.ok; rw [hrg, Bool.and_false]
    clear hrg hit
    have hS : (w.drewN m).drew.cell? ⟨b, off + k * 2, none⟩ = some (.string x.item) ∧ (w.drewN m).drew.cell? ⟨b, off + k * 2 + 1, none⟩ = some (.int .i64 x.cents) := ⟨d0, d1⟩
    go_wp2_with fail
    refine wp_region_held_drew (S := fun w' => w'.cell? ⟨b, off + k * 2, none⟩ = some (.string x.item) ∧ w'.cell? ⟨b, off + k * 2 + 1, none⟩ = some (.int .i64 x.cents)) (by kernel_rfl) hS (fun hHeld => ?_)
    clear hHeld
    refine lk33 (i := 0) (oi := ⟨some 10, .move (.tmp 0), 25, "l12_prices.go:7", #[], none⟩) (v := ?_) rfl (Or.inl ⟨by rfl, ?_⟩) ?_
    rotate_left
    ·intro w hSw
     (try dsimp only at hSw)
     first | (go_simp; done) | (go_simp; with_reducible rfl)
    (try simp only [Act.put, List.setIfInBounds_toArray, List.set_cons_zero, List.set_cons_succ])
    refine lk33 (i := 1) (oi := ⟨some 11, .move (.tmp 3), 3, "l12_prices.go:7", #[], none⟩) (v := ?_) rfl (Or.inl ⟨by rfl, ?_⟩) ?_
    rotate_left
    ·intro w hSw
     (try dsimp only at hSw)
     first | (go_simp; done) | (go_simp; with_reducible rfl)
    (try simp only [Act.put, List.setIfInBounds_toArray, List.set_cons_zero, List.set_cons_succ])
    refine lk33 (i := 2) (oi := ⟨some 12, .indexAddr 25 (.tmp 10) (.tmp 11), 0, "l12_prices.go:7", #[⟨0, .data⟩, ⟨1, .data⟩], none⟩) (v := ?_) rfl (Or.inl ⟨by rfl, ?_⟩) ?_
    rotate_left
    ·intro w hSw
     (try dsimp only at hSw)
     first | (go_simp; done) | (go_simp; with_reducible rfl)
    (try simp only [Act.put, List.setIfInBounds_toArray, List.set_cons_zero, List.set_cons_succ])
    refine lk33 (i := 3) (oi := ⟨some 13, .fieldAddr 63 (.tmp 12) 0, 0, "l12_prices.go:7", #[⟨2, .data⟩], none⟩) (v := ?_) rfl (Or.inl ⟨by rfl, ?_⟩) ?_
    rotate_left
    ·intro w hSw
     (try dsimp only at hSw)
     first | (go_simp; done) | (go_simp; with_reducible rfl)
    (try simp only [Act.put, List.setIfInBounds_toArray, List.set_cons_zero, List.set_cons_succ])
    refine lk33 (i := 4) (oi := ⟨some 14, .load 9 (.tmp 13), 9, "l12_prices.go:7", #[⟨3, .data⟩], none⟩) (v := ?_) rfl (Or.inl ⟨by rfl, ?_⟩) ?_
    rotate_left
    ·intro w hSw
     (try dsimp only at hSw)
     first | (go_simp; done) | (go_simp; with_reducible rfl)
    (try simp only [Act.put, List.setIfInBounds_toArray, List.set_cons_zero, List.set_cons_succ])
    refine rk 5 rfl (fun K hK => ?_)
    go_simp
    go_at_call 33
    refine (l3Item x.item hio _).mono ?_
    rintro e w2 ⟨rfl, rfl⟩
    rw [Hit.out]
    refine hK.out _ _ hS (fun hHeld2 => ?_)
    clear hK K
    (try simp only [Act.put, List.setIfInBounds_toArray, List.set_cons_zero, List.set_cons_succ])
    refine lk33 (i := 6) (oi := ⟨some 16, .unOp .not 4 (.tmp 15), 4, "l12_prices.go:7", #[⟨5, .data⟩], none⟩) (v := ?_) rfl (Or.inl ⟨by rfl, ?_⟩) ?_
    rotate_left
    ·intro w hSw
     (try dsimp only at hSw)
     first | (go_simp; done) | (go_simp; with_reducible rfl)
    (try simp only [Act.put, List.setIfInBounds_toArray, List.set_cons_zero, List.set_cons_succ])
    refine lk33 (i := 7) (oi := ⟨some 17, .move (.tmp 16), 4, "l12_prices.go:7", #[⟨6, .data⟩, ⟨5, .chain⟩], none⟩) (v := ?_) rfl (Or.inl ⟨by rfl, ?_⟩) ?_
    rotate_left
    ·intro w hSw
     (try dsimp only at hSw)
     first | (go_simp; done) | (go_simp; with_reducible rfl)
    (try simp only [Act.put, List.setIfInBounds_toArray, List.set_cons_zero, List.set_cons_succ])
    refine lk33 (i := 8) (oi := ⟨some 18, .move (.tmp 0), 25, "l12_prices.go:7", #[⟨7, .guard⟩], some (7, false)⟩) (v := ?_) rfl (Or.inl ⟨by rfl, ?_⟩) ?_
    rotate_left
    ·intro w hSw
     (try dsimp only at hSw)
     first | (go_simp; done) | (go_simp; with_reducible rfl)
    (try simp only [Act.put, List.setIfInBounds_toArray, List.set_cons_zero, List.set_cons_succ])
    refine lk33 (i := 9) (oi := ⟨some 19, .move (.tmp 3), 3, "l12_prices.go:7", #[⟨7, .guard⟩], some (7, false)⟩) (v := ?_) rfl (Or.inl ⟨by rfl, ?_⟩) ?_
    rotate_left
    ·intro w hSw
     (try dsimp only at hSw)
     first | (go_simp; done) | (go_simp; with_reducible rfl)
    (try simp only [Act.put, List.setIfInBounds_toArray, List.set_cons_zero, List.set_cons_succ])
    refine lk33 (i := 10) (oi := ⟨some 20, .indexAddr 25 (.tmp 18) (.tmp 19), 0, "l12_prices.go:7", #[⟨8, .data⟩, ⟨9, .data⟩, ⟨7, .guard⟩], some (7, false)⟩) (v := ?_) rfl (Or.inl ⟨by rfl, ?_⟩) ?_
    rotate_left
    ·intro w hSw
     (try dsimp only at hSw)
     first | (go_simp; done) | (go_simp; with_reducible rfl)
    (try simp only [Act.put, List.setIfInBounds_toArray, List.set_cons_zero, List.set_cons_succ])
    refine lk33 (i := 11) (oi := ⟨some 21, .fieldAddr 63 (.tmp 20) 1, 0, "l12_prices.go:7", #[⟨10, .data⟩, ⟨7, .guard⟩], some (7, false)⟩) (v := ?_) rfl (Or.inl ⟨by rfl, ?_⟩) ?_
    rotate_left
    ·intro w hSw
     (try dsimp only at hSw)
     first | (go_simp; done) | (go_simp; with_reducible rfl)
    (try simp only [Act.put, List.setIfInBounds_toArray, List.set_cons_zero, List.set_cons_succ])
    refine lk33 (i := 12) (oi := ⟨some 22, .load 2 (.tmp 21), 2, "l12_prices.go:7", #[⟨11, .data⟩, ⟨7, .guard⟩], some (7, false)⟩) (v := ?_) rfl (Or.inl ⟨by rfl, ?_⟩) ?_
    rotate_left
    ·intro w hSw
     (try dsimp only at hSw)
     first | (go_simp; done) | (go_simp; with_reducible rfl)
    (try simp only [Act.put, List.setIfInBounds_toArray, List.set_cons_zero, List.set_cons_succ])
    refine rk 13 rfl (fun K hK => ?_)
    go_simp
    go_at_call 34
    refine (l1In x.cents 1 1000000 _).mono ?_
    rintro e w2 ⟨rfl, rfl⟩
    rw [Hrg.out]
    refine hK.out _ _ hS (fun hHeld3 => ?_)
    clear hK K
    (try simp only [Act.put, List.setIfInBounds_toArray, List.set_cons_zero, List.set_cons_succ])
    refine lk33 (i := 14) (oi := ⟨some 24, .unOp .not 4 (.tmp 23), 4, "l12_prices.go:7", #[⟨13, .data⟩, ⟨7, .guard⟩], some (7, false)⟩) (v := ?_) rfl (Or.inl ⟨by rfl, ?_⟩) ?_
    rotate_left
    ·intro w hSw
     (try dsimp only at hSw)
     first | (go_simp; done) | (go_simp; with_reducible rfl)
    (try simp only [Act.put, List.setIfInBounds_toArray, List.set_cons_zero, List.set_cons_succ])
    refine lk33 (i := 15) (oi := ⟨some 25, .pick (.tmp 17) (.const (Value.bool true)) (.tmp 24), 4, "l12_prices.go:7", #[⟨7, .data⟩, ⟨14, .data⟩], none⟩) (v := ?_) rfl (Or.inl ⟨by rfl, ?_⟩) ?_
    rotate_left
    ·intro w hSw
     (try dsimp only at hSw)
     first | (go_simp; done) | (go_simp; with_reducible rfl)
    (try simp only [Act.put, List.setIfInBounds_toArray, List.set_cons_zero, List.set_cons_succ])
    refine lk33 (i := 16) (oi := ⟨some 26, .move (.tmp 25), 4, "l12_prices.go:7", #[⟨15, .data⟩, ⟨13, .chain⟩], none⟩) (v := ?_) rfl (Or.inl ⟨by rfl, ?_⟩) ?_
    rotate_left
    ·intro w hSw
     (try dsimp only at hSw)
     first | (go_simp; done) | (go_simp; with_reducible rfl)
    (try simp only [Act.put, List.setIfInBounds_toArray, List.set_cons_zero, List.set_cons_succ])
    refine lk33 (i := 17) (oi := ⟨some 27, .move (.tmp 3), 3, "l12_prices.go:7", #[⟨16, .guard⟩], some (16, false)⟩) (v := undef) rfl (Or.inr ⟨by rfl, rfl⟩) ?_
    (try simp only [Act.put, List.setIfInBounds_toArray, List.set_cons_zero, List.set_cons_succ])
    refine lk33 (i := 18) (oi := ⟨some 28, .binOp .gtr 3 (.tmp 27) (.const (Value.int IntKind.i64 0)) 3, 4, "l12_prices.go:7", #[⟨17, .data⟩, ⟨16, .guard⟩], some (16, false)⟩) (v := undef) rfl (Or.inr ⟨by rfl, rfl⟩) ?_
    (try simp only [Act.put, List.setIfInBounds_toArray, List.set_cons_zero, List.set_cons_succ])
    refine lk33 (i := 19) (oi := ⟨some 29, .move (.tmp 28), 4, "l12_prices.go:7", #[⟨18, .data⟩, ⟨16, .chain⟩, ⟨16, .guard⟩], some (16, false)⟩) (v := undef) rfl (Or.inr ⟨by rfl, rfl⟩) ?_
    (try simp only [Act.put, List.setIfInBounds_toArray, List.set_cons_zero, List.set_cons_succ])
    refine lk33 (i := 20) (oi := ⟨some 30, .move (.tmp 0), 25, "l12_prices.go:7", #[⟨19, .guard⟩], some (19, true)⟩) (v := undef) rfl (Or.inr ⟨by rfl, rfl⟩) ?_
    (try simp only [Act.put, List.setIfInBounds_toArray, List.set_cons_zero, List.set_cons_succ])
    refine lk33 (i := 21) (oi := ⟨some 31, .move (.tmp 3), 3, "l12_prices.go:7", #[⟨19, .guard⟩], some (19, true)⟩) (v := undef) rfl (Or.inr ⟨by rfl, rfl⟩) ?_
    (try simp only [Act.put, List.setIfInBounds_toArray, List.set_cons_zero, List.set_cons_succ])
    refine lk33 (i := 22) (oi := ⟨some 32, .binOp .sub 3 (.tmp 31) (.const (Value.int IntKind.i64 1)) 3, 3, "l12_prices.go:7", #[⟨21, .data⟩, ⟨19, .guard⟩], some (19, true)⟩) (v := undef) rfl (Or.inr ⟨by rfl, rfl⟩) ?_
    (try simp only [Act.put, List.setIfInBounds_toArray, List.set_cons_zero, List.set_cons_succ])
    refine lk33 (i := 23) (oi := ⟨some 33, .indexAddr 25 (.tmp 30) (.tmp 32), 0, "l12_prices.go:7", #[⟨20, .data⟩, ⟨22, .data⟩, ⟨19, .guard⟩], some (19, true)⟩) (v := undef) rfl (Or.inr ⟨by rfl, rfl⟩) ?_
    (try simp only [Act.put, List.setIfInBounds_toArray, List.set_cons_zero, List.set_cons_succ])
    refine lk33 (i := 24) (oi := ⟨some 34, .fieldAddr 63 (.tmp 33) 0, 0, "l12_prices.go:7", #[⟨23, .data⟩, ⟨19, .guard⟩], some (19, true)⟩) (v := undef) rfl (Or.inr ⟨by rfl, rfl⟩) ?_
    (try simp only [Act.put, List.setIfInBounds_toArray, List.set_cons_zero, List.set_cons_succ])
    refine lk33 (i := 25) (oi := ⟨some 35, .load 9 (.tmp 34), 9, "l12_prices.go:7", #[⟨24, .data⟩, ⟨19, .guard⟩], some (19, true)⟩) (v := undef) rfl (Or.inr ⟨by rfl, rfl⟩) ?_
    (try simp only [Act.put, List.setIfInBounds_toArray, List.set_cons_zero, List.set_cons_succ])
    refine lk33 (i := 26) (oi := ⟨some 36, .move (.tmp 0), 25, "l12_prices.go:7", #[⟨19, .guard⟩], some (19, true)⟩) (v := undef) rfl (Or.inr ⟨by rfl, rfl⟩) ?_
    (try simp only [Act.put, List.setIfInBounds_toArray, List.set_cons_zero, List.set_cons_succ])
    refine lk33 (i := 27) (oi := ⟨some 37, .move (.tmp 3), 3, "l12_prices.go:7", #[⟨19, .guard⟩], some (19, true)⟩) (v := undef) rfl (Or.inr ⟨by rfl, rfl⟩) ?_
    (try simp only [Act.put, List.setIfInBounds_toArray, List.set_cons_zero, List.set_cons_succ])
    refine lk33 (i := 28) (oi := ⟨some 38, .indexAddr 25 (.tmp 36) (.tmp 37), 0, "l12_prices.go:7", #[⟨26, .data⟩, ⟨27, .data⟩, ⟨19, .guard⟩], some (19, true)⟩) (v := undef) rfl (Or.inr ⟨by rfl, rfl⟩) ?_
    (try simp only [Act.put, List.setIfInBounds_toArray, List.set_cons_zero, List.set_cons_succ])
    refine lk33 (i := 29) (oi := ⟨some 39, .fieldAddr 63 (.tmp 38) 0, 0, "l12_prices.go:7", #[⟨28, .data⟩, ⟨19, .guard⟩], some (19, true)⟩) (v := undef) rfl (Or.inr ⟨by rfl, rfl⟩) ?_
    (try simp only [Act.put, List.setIfInBounds_toArray, List.set_cons_zero, List.set_cons_succ])
    refine lk33 (i := 30) (oi := ⟨some 40, .load 9 (.tmp 39), 9, "l12_prices.go:7", #[⟨29, .data⟩, ⟨19, .guard⟩], some (19, true)⟩) (v := undef) rfl (Or.inr ⟨by rfl, rfl⟩) ?_
    (try simp only [Act.put, List.setIfInBounds_toArray, List.set_cons_zero, List.set_cons_succ])
    refine lk33 (i := 31) (oi := ⟨some 41, .binOp .geq 9 (.tmp 35) (.tmp 40) 9, 4, "l12_prices.go:7", #[⟨25, .data⟩, ⟨30, .data⟩, ⟨19, .guard⟩], some (19, true)⟩) (v := undef) rfl (Or.inr ⟨by rfl, rfl⟩) ?_
    (try simp only [Act.put, List.setIfInBounds_toArray, List.set_cons_zero, List.set_cons_succ])
    refine lk33 (i := 32) (oi := ⟨some 42, .pick (.tmp 29) (.tmp 41) (.const (Value.bool false)), 4, "l12_prices.go:7", #[⟨19, .data⟩, ⟨31, .data⟩, ⟨16, .guard⟩], some (16, false)⟩) (v := undef) rfl (Or.inr ⟨by rfl, rfl⟩) ?_
    (try simp only [Act.put, List.setIfInBounds_toArray, List.set_cons_zero, List.set_cons_succ])
    refine lk33 (i := 33) (oi := ⟨some 43, .pick (.tmp 26) (.const (Value.bool true)) (.tmp 42), 4, "l12_prices.go:7", #[⟨16, .data⟩, ⟨32, .data⟩], none⟩) (v := ?_) rfl (Or.inl ⟨by rfl, ?_⟩) ?_
    rotate_left
    ·intro w hSw
     (try dsimp only at hSw)
     first | (go_simp; done) | (go_simp; with_reducible rfl)
    (try simp only [Act.put, List.setIfInBounds_toArray, List.set_cons_zero, List.set_cons_succ])
    refine wpAnyH_done (by kernel_rfl) ?_ _
    have HF := Lib.hid (HNo.out (HOk.out.trans HB.out))
    go_wp2
    go_ret
    exact ⟨by rw [HD.out, HF.out]; rfl, rfl, rfl, rfl, Nat.le_refl _, fun _ _ => rfl⟩
   have Hrg := Lib.hid hrg
   have HOy : Prok l k = true := HOk.out.trans (by show x.ok = true; unfold PrV.ok; rw [hit, hrg]; rfl)
   have HOY := Lib.hid HOy
   clear hit hrg HOy
   have hS : (w.drewN m).drew.cell? ⟨b, off + k * 2, none⟩ = some (.string x.item) ∧ (w.drewN m).drew.cell? ⟨b, off + k * 2 + 1, none⟩ = some (.int .i64 x.cents) := ⟨d0, d1⟩
   go_wp2_with fail
   refine wp_region_held_drew (S := fun w' => w'.cell? ⟨b, off + k * 2, none⟩ = some (.string x.item) ∧ w'.cell? ⟨b, off + k * 2 + 1, none⟩ = some (.int .i64 x.cents)) (by kernel_rfl) hS (fun hHeld => ?_)
   clear hHeld
   refine lk33 (i := 0) (oi := ⟨some 10, .move (.tmp 0), 25, "l12_prices.go:7", #[], none⟩) (v := ?_) rfl (Or.inl ⟨by rfl, ?_⟩) ?_
   rotate_left
   ·intro w hSw
    (try dsimp only at hSw)
    first | (go_simp; done) | (go_simp; with_reducible rfl)
   (try simp only [Act.put, List.setIfInBounds_toArray, List.set_cons_zero, List.set_cons_succ])
   refine lk33 (i := 1) (oi := ⟨some 11, .move (.tmp 3), 3, "l12_prices.go:7", #[], none⟩) (v := ?_) rfl (Or.inl ⟨by rfl, ?_⟩) ?_
   rotate_left
   ·intro w hSw
    (try dsimp only at hSw)
    first | (go_simp; done) | (go_simp; with_reducible rfl)
   (try simp only [Act.put, List.setIfInBounds_toArray, List.set_cons_zero, List.set_cons_succ])
   refine lk33 (i := 2) (oi := ⟨some 12, .indexAddr 25 (.tmp 10) (.tmp 11), 0, "l12_prices.go:7", #[⟨0, .data⟩, ⟨1, .data⟩], none⟩) (v := ?_) rfl (Or.inl ⟨by rfl, ?_⟩) ?_
   rotate_left
   ·intro w hSw
    (try dsimp only at hSw)
    first | (go_simp; done) | (go_simp; with_reducible rfl)
   (try simp only [Act.put, List.setIfInBounds_toArray, List.set_cons_zero, List.set_cons_succ])
   refine lk33 (i := 3) (oi := ⟨some 13, .fieldAddr 63 (.tmp 12) 0, 0, "l12_prices.go:7", #[⟨2, .data⟩], none⟩) (v := ?_) rfl (Or.inl ⟨by rfl, ?_⟩) ?_
   rotate_left
   ·intro w hSw
    (try dsimp only at hSw)
    first | (go_simp; done) | (go_simp; with_reducible rfl)
   (try simp only [Act.put, List.setIfInBounds_toArray, List.set_cons_zero, List.set_cons_succ])
   refine lk33 (i := 4) (oi := ⟨some 14, .load 9 (.tmp 13), 9, "l12_prices.go:7", #[⟨3, .data⟩], none⟩) (v := ?_) rfl (Or.inl ⟨by rfl, ?_⟩) ?_
   rotate_left
   ·intro w hSw
    (try dsimp only at hSw)
    first | (go_simp; done) | (go_simp; with_reducible rfl)
   (try simp only [Act.put, List.setIfInBounds_toArray, List.set_cons_zero, List.set_cons_succ])
   refine rk 5 rfl (fun K hK => ?_)
   go_simp
   go_at_call 33
   refine (l3Item x.item hio _).mono ?_
   rintro e w2 ⟨rfl, rfl⟩
   rw [Hit.out]
   refine hK.out _ _ hS (fun hHeld2 => ?_)
   clear hK K
   (try simp only [Act.put, List.setIfInBounds_toArray, List.set_cons_zero, List.set_cons_succ])
   refine lk33 (i := 6) (oi := ⟨some 16, .unOp .not 4 (.tmp 15), 4, "l12_prices.go:7", #[⟨5, .data⟩], none⟩) (v := ?_) rfl (Or.inl ⟨by rfl, ?_⟩) ?_
   rotate_left
   ·intro w hSw
    (try dsimp only at hSw)
    first | (go_simp; done) | (go_simp; with_reducible rfl)
   (try simp only [Act.put, List.setIfInBounds_toArray, List.set_cons_zero, List.set_cons_succ])
   refine lk33 (i := 7) (oi := ⟨some 17, .move (.tmp 16), 4, "l12_prices.go:7", #[⟨6, .data⟩, ⟨5, .chain⟩], none⟩) (v := ?_) rfl (Or.inl ⟨by rfl, ?_⟩) ?_
   rotate_left
   ·intro w hSw
    (try dsimp only at hSw)
    first | (go_simp; done) | (go_simp; with_reducible rfl)
   (try simp only [Act.put, List.setIfInBounds_toArray, List.set_cons_zero, List.set_cons_succ])
   refine lk33 (i := 8) (oi := ⟨some 18, .move (.tmp 0), 25, "l12_prices.go:7", #[⟨7, .guard⟩], some (7, false)⟩) (v := ?_) rfl (Or.inl ⟨by rfl, ?_⟩) ?_
   rotate_left
   ·intro w hSw
    (try dsimp only at hSw)
    first | (go_simp; done) | (go_simp; with_reducible rfl)
   (try simp only [Act.put, List.setIfInBounds_toArray, List.set_cons_zero, List.set_cons_succ])
   refine lk33 (i := 9) (oi := ⟨some 19, .move (.tmp 3), 3, "l12_prices.go:7", #[⟨7, .guard⟩], some (7, false)⟩) (v := ?_) rfl (Or.inl ⟨by rfl, ?_⟩) ?_
   rotate_left
   ·intro w hSw
    (try dsimp only at hSw)
    first | (go_simp; done) | (go_simp; with_reducible rfl)
   (try simp only [Act.put, List.setIfInBounds_toArray, List.set_cons_zero, List.set_cons_succ])
   refine lk33 (i := 10) (oi := ⟨some 20, .indexAddr 25 (.tmp 18) (.tmp 19), 0, "l12_prices.go:7", #[⟨8, .data⟩, ⟨9, .data⟩, ⟨7, .guard⟩], some (7, false)⟩) (v := ?_) rfl (Or.inl ⟨by rfl, ?_⟩) ?_
   rotate_left
   ·intro w hSw
    (try dsimp only at hSw)
    first | (go_simp; done) | (go_simp; with_reducible rfl)
   (try simp only [Act.put, List.setIfInBounds_toArray, List.set_cons_zero, List.set_cons_succ])
   refine lk33 (i := 11) (oi := ⟨some 21, .fieldAddr 63 (.tmp 20) 1, 0, "l12_prices.go:7", #[⟨10, .data⟩, ⟨7, .guard⟩], some (7, false)⟩) (v := ?_) rfl (Or.inl ⟨by rfl, ?_⟩) ?_
   rotate_left
   ·intro w hSw
    (try dsimp only at hSw)
    first | (go_simp; done) | (go_simp; with_reducible rfl)
   (try simp only [Act.put, List.setIfInBounds_toArray, List.set_cons_zero, List.set_cons_succ])
   refine lk33 (i := 12) (oi := ⟨some 22, .load 2 (.tmp 21), 2, "l12_prices.go:7", #[⟨11, .data⟩, ⟨7, .guard⟩], some (7, false)⟩) (v := ?_) rfl (Or.inl ⟨by rfl, ?_⟩) ?_
   rotate_left
   ·intro w hSw
    (try dsimp only at hSw)
    first | (go_simp; done) | (go_simp; with_reducible rfl)
   (try simp only [Act.put, List.setIfInBounds_toArray, List.set_cons_zero, List.set_cons_succ])
   refine rk 13 rfl (fun K hK => ?_)
   go_simp
   go_at_call 34
   refine (l1In x.cents 1 1000000 _).mono ?_
   rintro e w2 ⟨rfl, rfl⟩
   rw [Hrg.out]
   refine hK.out _ _ hS (fun hHeld3 => ?_)
   clear hK K
   (try simp only [Act.put, List.setIfInBounds_toArray, List.set_cons_zero, List.set_cons_succ])
   refine lk33 (i := 14) (oi := ⟨some 24, .unOp .not 4 (.tmp 23), 4, "l12_prices.go:7", #[⟨13, .data⟩, ⟨7, .guard⟩], some (7, false)⟩) (v := ?_) rfl (Or.inl ⟨by rfl, ?_⟩) ?_
   rotate_left
   ·intro w hSw
    (try dsimp only at hSw)
    first | (go_simp; done) | (go_simp; with_reducible rfl)
   (try simp only [Act.put, List.setIfInBounds_toArray, List.set_cons_zero, List.set_cons_succ])
   refine lk33 (i := 15) (oi := ⟨some 25, .pick (.tmp 17) (.const (Value.bool true)) (.tmp 24), 4, "l12_prices.go:7", #[⟨7, .data⟩, ⟨14, .data⟩], none⟩) (v := ?_) rfl (Or.inl ⟨by rfl, ?_⟩) ?_
   rotate_left
   ·intro w hSw
    (try dsimp only at hSw)
    first | (go_simp; done) | (go_simp; with_reducible rfl)
   (try simp only [Act.put, List.setIfInBounds_toArray, List.set_cons_zero, List.set_cons_succ])
   refine lk33 (i := 16) (oi := ⟨some 26, .move (.tmp 25), 4, "l12_prices.go:7", #[⟨15, .data⟩, ⟨13, .chain⟩], none⟩) (v := ?_) rfl (Or.inl ⟨by rfl, ?_⟩) ?_
   rotate_left
   ·intro w hSw
    (try dsimp only at hSw)
    first | (go_simp; done) | (go_simp; with_reducible rfl)
   (try simp only [Act.put, List.setIfInBounds_toArray, List.set_cons_zero, List.set_cons_succ])
   refine lk33 (i := 17) (oi := ⟨some 27, .move (.tmp 3), 3, "l12_prices.go:7", #[⟨16, .guard⟩], some (16, false)⟩) (v := ?_) rfl (Or.inl ⟨by rfl, ?_⟩) ?_
   rotate_left
   ·intro w hSw
    (try dsimp only at hSw)
    first | (go_simp; done) | (go_simp; with_reducible rfl)
   (try simp only [Act.put, List.setIfInBounds_toArray, List.set_cons_zero, List.set_cons_succ])
   refine lk33 (i := 18) (oi := ⟨some 28, .binOp .gtr 3 (.tmp 27) (.const (Value.int IntKind.i64 0)) 3, 4, "l12_prices.go:7", #[⟨17, .data⟩, ⟨16, .guard⟩], some (16, false)⟩) (v := ?_) rfl (Or.inl ⟨by rfl, ?_⟩) ?_
   rotate_left
   ·intro w hSw
    (try dsimp only at hSw)
    first | (go_simp; done) | (go_simp; with_reducible rfl)
   (try simp only [Act.put, List.setIfInBounds_toArray, List.set_cons_zero, List.set_cons_succ])
   refine lk33 (i := 19) (oi := ⟨some 29, .move (.tmp 28), 4, "l12_prices.go:7", #[⟨18, .data⟩, ⟨16, .chain⟩, ⟨16, .guard⟩], some (16, false)⟩) (v := ?_) rfl (Or.inl ⟨by rfl, ?_⟩) ?_
   rotate_left
   ·intro w hSw
    (try dsimp only at hSw)
    first | (go_simp; done) | (go_simp; with_reducible rfl)
   (try simp only [Act.put, List.setIfInBounds_toArray, List.set_cons_zero, List.set_cons_succ])
   refine lk33 (i := 20) (oi := ⟨some 30, .move (.tmp 0), 25, "l12_prices.go:7", #[⟨19, .guard⟩], some (19, true)⟩) (v := undef) rfl (Or.inr ⟨by rfl, rfl⟩) ?_
   (try simp only [Act.put, List.setIfInBounds_toArray, List.set_cons_zero, List.set_cons_succ])
   refine lk33 (i := 21) (oi := ⟨some 31, .move (.tmp 3), 3, "l12_prices.go:7", #[⟨19, .guard⟩], some (19, true)⟩) (v := undef) rfl (Or.inr ⟨by rfl, rfl⟩) ?_
   (try simp only [Act.put, List.setIfInBounds_toArray, List.set_cons_zero, List.set_cons_succ])
   refine lk33 (i := 22) (oi := ⟨some 32, .binOp .sub 3 (.tmp 31) (.const (Value.int IntKind.i64 1)) 3, 3, "l12_prices.go:7", #[⟨21, .data⟩, ⟨19, .guard⟩], some (19, true)⟩) (v := undef) rfl (Or.inr ⟨by rfl, rfl⟩) ?_
   (try simp only [Act.put, List.setIfInBounds_toArray, List.set_cons_zero, List.set_cons_succ])
   refine lk33 (i := 23) (oi := ⟨some 33, .indexAddr 25 (.tmp 30) (.tmp 32), 0, "l12_prices.go:7", #[⟨20, .data⟩, ⟨22, .data⟩, ⟨19, .guard⟩], some (19, true)⟩) (v := undef) rfl (Or.inr ⟨by rfl, rfl⟩) ?_
   (try simp only [Act.put, List.setIfInBounds_toArray, List.set_cons_zero, List.set_cons_succ])
   refine lk33 (i := 24) (oi := ⟨some 34, .fieldAddr 63 (.tmp 33) 0, 0, "l12_prices.go:7", #[⟨23, .data⟩, ⟨19, .guard⟩], some (19, true)⟩) (v := undef) rfl (Or.inr ⟨by rfl, rfl⟩) ?_
   (try simp only [Act.put, List.setIfInBounds_toArray, List.set_cons_zero, List.set_cons_succ])
   refine lk33 (i := 25) (oi := ⟨some 35, .load 9 (.tmp 34), 9, "l12_prices.go:7", #[⟨24, .data⟩, ⟨19, .guard⟩], some (19, true)⟩) (v := undef) rfl (Or.inr ⟨by rfl, rfl⟩) ?_
   (try simp only [Act.put, List.setIfInBounds_toArray, List.set_cons_zero, List.set_cons_succ])
   refine lk33 (i := 26) (oi := ⟨some 36, .move (.tmp 0), 25, "l12_prices.go:7", #[⟨19, .guard⟩], some (19, true)⟩) (v := undef) rfl (Or.inr ⟨by rfl, rfl⟩) ?_
   (try simp only [Act.put, List.setIfInBounds_toArray, List.set_cons_zero, List.set_cons_succ])
   refine lk33 (i := 27) (oi := ⟨some 37, .move (.tmp 3), 3, "l12_prices.go:7", #[⟨19, .guard⟩], some (19, true)⟩) (v := undef) rfl (Or.inr ⟨by rfl, rfl⟩) ?_
   (try simp only [Act.put, List.setIfInBounds_toArray, List.set_cons_zero, List.set_cons_succ])
   refine lk33 (i := 28) (oi := ⟨some 38, .indexAddr 25 (.tmp 36) (.tmp 37), 0, "l12_prices.go:7", #[⟨26, .data⟩, ⟨27, .data⟩, ⟨19, .guard⟩], some (19, true)⟩) (v := undef) rfl (Or.inr ⟨by rfl, rfl⟩) ?_
   (try simp only [Act.put, List.setIfInBounds_toArray, List.set_cons_zero, List.set_cons_succ])
   refine lk33 (i := 29) (oi := ⟨some 39, .fieldAddr 63 (.tmp 38) 0, 0, "l12_prices.go:7", #[⟨28, .data⟩, ⟨19, .guard⟩], some (19, true)⟩) (v := undef) rfl (Or.inr ⟨by rfl, rfl⟩) ?_
   (try simp only [Act.put, List.setIfInBounds_toArray, List.set_cons_zero, List.set_cons_succ])
   refine lk33 (i := 30) (oi := ⟨some 40, .load 9 (.tmp 39), 9, "l12_prices.go:7", #[⟨29, .data⟩, ⟨19, .guard⟩], some (19, true)⟩) (v := undef) rfl (Or.inr ⟨by rfl, rfl⟩) ?_
   (try simp only [Act.put, List.setIfInBounds_toArray, List.set_cons_zero, List.set_cons_succ])
   refine lk33 (i := 31) (oi := ⟨some 41, .binOp .geq 9 (.tmp 35) (.tmp 40) 9, 4, "l12_prices.go:7", #[⟨25, .data⟩, ⟨30, .data⟩, ⟨19, .guard⟩], some (19, true)⟩) (v := undef) rfl (Or.inr ⟨by rfl, rfl⟩) ?_
   (try simp only [Act.put, List.setIfInBounds_toArray, List.set_cons_zero, List.set_cons_succ])
   refine lk33 (i := 32) (oi := ⟨some 42, .pick (.tmp 29) (.tmp 41) (.const (Value.bool false)), 4, "l12_prices.go:7", #[⟨19, .data⟩, ⟨31, .data⟩, ⟨16, .guard⟩], some (16, false)⟩) (v := ?_) rfl (Or.inl ⟨by rfl, ?_⟩) ?_
   rotate_left
   ·intro w hSw
    (try dsimp only at hSw)
    first | (go_simp; done) | (go_simp; with_reducible rfl)
   (try simp only [Act.put, List.setIfInBounds_toArray, List.set_cons_zero, List.set_cons_succ])
   refine lk33 (i := 33) (oi := ⟨some 43, .pick (.tmp 26) (.const (Value.bool true)) (.tmp 42), 4, "l12_prices.go:7", #[⟨16, .data⟩, ⟨32, .data⟩], none⟩) (v := ?_) rfl (Or.inl ⟨by rfl, ?_⟩) ?_
   rotate_left
   ·intro w hSw
    (try dsimp only at hSw)
    first | (go_simp; done) | (go_simp; with_reducible rfl)
   (try simp only [Act.put, List.setIfInBounds_toArray, List.set_cons_zero, List.set_cons_succ])
   refine wpAnyH_done (by kernel_rfl) ?_ _
   have HIy : Princ l k = true := by show (decide (k = 0) || _) = true; rw [decide_eq_true HZ.out]; rfl
   have HOy := HOY.out
   have HIY := Lib.hid HIy
   clear HIy HOy
   have HA := Lib.hid (HSo.out HOY.out)
   have HBb := Lib.hid (HSi.out HIY.out)
   go_wp2
   go_roundw
   case rel => exact ⟨k + 1, m + 1, by omega, by go_num, by rfl, HA, HBb⟩
   case measure => simp [intOf]; omega
  have hzi : decide (0 < k) = true := decide_eq_true (by omega)
  obtain ⟨j, hj⟩ : ∃ j, k = j + 1 := ⟨k - 1, by omega⟩
  obtain ⟨b', off', hao', _, hop⟩ := H.out.2 j (by omega)
  have e := hao.symm.trans hao'
  injection e with e
  injection e with e1 e2
  subst e1 e2 hao
  have hop' : PrAt (w.drewN m).drew b (off + j * 2) (atPr l j) := hop.kept (w' := (w.drewN m).drew) rfl
  clear hop hao'
  have HIk : Hid (Princ l k = ltS (atPr l j).item (atPr l k).item) := by subst hj; rfl
  have im : IntKind.i64.wrap ((k : Int) - 1) = (j : Int) := (IntWalk.i64_in _ (by omega)).trans (by omega)
  have i1 : (j : Int) < (n : Int) := by omega
  have i0 : (0 : Int) ≤ (j : Int) := by omega
  generalize atPr l k = x at hio HOk HIk ho'
  generalize atPr l j = z at HIk hop'
  obtain ⟨d0, d1⟩ := ho'
  obtain ⟨e0, _⟩ := hop'
  clear hj
  rcases hit : itemB x.item with _ | _
  ·have Hit := Lib.hid hit
   have HB : Hid (x.ok = false) := by show x.ok = false; unfold PrV.ok; rw [hit]; rfl
   clear hit
   have hS : (w.drewN m).drew.cell? ⟨b, off + k * 2, none⟩ = some (.string x.item) ∧ (w.drewN m).drew.cell? ⟨b, off + k * 2 + 1, none⟩ = some (.int .i64 x.cents) ∧ (w.drewN m).drew.cell? ⟨b, off + j * 2, none⟩ = some (.string z.item) := ⟨d0, d1, e0⟩
   go_wp2_with fail
   refine wp_region_held_drew (S := fun w' => w'.cell? ⟨b, off + k * 2, none⟩ = some (.string x.item) ∧ w'.cell? ⟨b, off + k * 2 + 1, none⟩ = some (.int .i64 x.cents) ∧ w'.cell? ⟨b, off + j * 2, none⟩ = some (.string z.item)) (by kernel_rfl) hS (fun hHeld => ?_)
   clear hHeld
   refine lk33 (i := 0) (oi := ⟨some 10, .move (.tmp 0), 25, "l12_prices.go:7", #[], none⟩) (v := ?_) rfl (Or.inl ⟨by rfl, ?_⟩) ?_
   rotate_left
   ·intro w hSw
    (try dsimp only at hSw)
    first | (go_simp; done) | (go_simp; with_reducible rfl)
   (try simp only [Act.put, List.setIfInBounds_toArray, List.set_cons_zero, List.set_cons_succ])
   refine lk33 (i := 1) (oi := ⟨some 11, .move (.tmp 3), 3, "l12_prices.go:7", #[], none⟩) (v := ?_) rfl (Or.inl ⟨by rfl, ?_⟩) ?_
   rotate_left
   ·intro w hSw
    (try dsimp only at hSw)
    first | (go_simp; done) | (go_simp; with_reducible rfl)
   (try simp only [Act.put, List.setIfInBounds_toArray, List.set_cons_zero, List.set_cons_succ])
   refine lk33 (i := 2) (oi := ⟨some 12, .indexAddr 25 (.tmp 10) (.tmp 11), 0, "l12_prices.go:7", #[⟨0, .data⟩, ⟨1, .data⟩], none⟩) (v := ?_) rfl (Or.inl ⟨by rfl, ?_⟩) ?_
   rotate_left
   ·intro w hSw
    (try dsimp only at hSw)
    first | (go_simp; done) | (go_simp; with_reducible rfl)
   (try simp only [Act.put, List.setIfInBounds_toArray, List.set_cons_zero, List.set_cons_succ])
   refine lk33 (i := 3) (oi := ⟨some 13, .fieldAddr 63 (.tmp 12) 0, 0, "l12_prices.go:7", #[⟨2, .data⟩], none⟩) (v := ?_) rfl (Or.inl ⟨by rfl, ?_⟩) ?_
   rotate_left
   ·intro w hSw
    (try dsimp only at hSw)
    first | (go_simp; done) | (go_simp; with_reducible rfl)
   (try simp only [Act.put, List.setIfInBounds_toArray, List.set_cons_zero, List.set_cons_succ])
   refine lk33 (i := 4) (oi := ⟨some 14, .load 9 (.tmp 13), 9, "l12_prices.go:7", #[⟨3, .data⟩], none⟩) (v := ?_) rfl (Or.inl ⟨by rfl, ?_⟩) ?_
   rotate_left
   ·intro w hSw
    (try dsimp only at hSw)
    first | (go_simp; done) | (go_simp; with_reducible rfl)
   (try simp only [Act.put, List.setIfInBounds_toArray, List.set_cons_zero, List.set_cons_succ])
   refine rk 5 rfl (fun K hK => ?_)
   go_simp
   go_at_call 33
   refine (l3Item x.item hio _).mono ?_
   rintro e w2 ⟨rfl, rfl⟩
   rw [Hit.out]
   refine hK.out _ _ hS (fun hHeld2 => ?_)
   clear hK K
   (try simp only [Act.put, List.setIfInBounds_toArray, List.set_cons_zero, List.set_cons_succ])
   refine lk33 (i := 6) (oi := ⟨some 16, .unOp .not 4 (.tmp 15), 4, "l12_prices.go:7", #[⟨5, .data⟩], none⟩) (v := ?_) rfl (Or.inl ⟨by rfl, ?_⟩) ?_
   rotate_left
   ·intro w hSw
    (try dsimp only at hSw)
    first | (go_simp; done) | (go_simp; with_reducible rfl)
   (try simp only [Act.put, List.setIfInBounds_toArray, List.set_cons_zero, List.set_cons_succ])
   refine lk33 (i := 7) (oi := ⟨some 17, .move (.tmp 16), 4, "l12_prices.go:7", #[⟨6, .data⟩, ⟨5, .chain⟩], none⟩) (v := ?_) rfl (Or.inl ⟨by rfl, ?_⟩) ?_
   rotate_left
   ·intro w hSw
    (try dsimp only at hSw)
    first | (go_simp; done) | (go_simp; with_reducible rfl)
   (try simp only [Act.put, List.setIfInBounds_toArray, List.set_cons_zero, List.set_cons_succ])
   refine lk33 (i := 8) (oi := ⟨some 18, .move (.tmp 0), 25, "l12_prices.go:7", #[⟨7, .guard⟩], some (7, false)⟩) (v := undef) rfl (Or.inr ⟨by rfl, rfl⟩) ?_
   (try simp only [Act.put, List.setIfInBounds_toArray, List.set_cons_zero, List.set_cons_succ])
   refine lk33 (i := 9) (oi := ⟨some 19, .move (.tmp 3), 3, "l12_prices.go:7", #[⟨7, .guard⟩], some (7, false)⟩) (v := undef) rfl (Or.inr ⟨by rfl, rfl⟩) ?_
   (try simp only [Act.put, List.setIfInBounds_toArray, List.set_cons_zero, List.set_cons_succ])
   refine lk33 (i := 10) (oi := ⟨some 20, .indexAddr 25 (.tmp 18) (.tmp 19), 0, "l12_prices.go:7", #[⟨8, .data⟩, ⟨9, .data⟩, ⟨7, .guard⟩], some (7, false)⟩) (v := undef) rfl (Or.inr ⟨by rfl, rfl⟩) ?_
   (try simp only [Act.put, List.setIfInBounds_toArray, List.set_cons_zero, List.set_cons_succ])
   refine lk33 (i := 11) (oi := ⟨some 21, .fieldAddr 63 (.tmp 20) 1, 0, "l12_prices.go:7", #[⟨10, .data⟩, ⟨7, .guard⟩], some (7, false)⟩) (v := undef) rfl (Or.inr ⟨by rfl, rfl⟩) ?_
   (try simp only [Act.put, List.setIfInBounds_toArray, List.set_cons_zero, List.set_cons_succ])
   refine lk33 (i := 12) (oi := ⟨some 22, .load 2 (.tmp 21), 2, "l12_prices.go:7", #[⟨11, .data⟩, ⟨7, .guard⟩], some (7, false)⟩) (v := undef) rfl (Or.inr ⟨by rfl, rfl⟩) ?_
   (try simp only [Act.put, List.setIfInBounds_toArray, List.set_cons_zero, List.set_cons_succ])
   refine lk33 (i := 13) (oi := ⟨some 23, .call ⟨.value (.func 34), #[.tmp 22, .const (Value.int IntKind.i64 1), .const (Value.int IntKind.i64 1000000)], #[2, 2, 2]⟩, 4, "l12_prices.go:7", #[⟨12, .data⟩, ⟨7, .chain⟩, ⟨7, .guard⟩], some (7, false)⟩) (v := undef) rfl (Or.inr ⟨by rfl, rfl⟩) ?_
   (try simp only [Act.put, List.setIfInBounds_toArray, List.set_cons_zero, List.set_cons_succ])
   refine lk33 (i := 14) (oi := ⟨some 24, .unOp .not 4 (.tmp 23), 4, "l12_prices.go:7", #[⟨13, .data⟩, ⟨7, .guard⟩], some (7, false)⟩) (v := undef) rfl (Or.inr ⟨by rfl, rfl⟩) ?_
   (try simp only [Act.put, List.setIfInBounds_toArray, List.set_cons_zero, List.set_cons_succ])
   refine lk33 (i := 15) (oi := ⟨some 25, .pick (.tmp 17) (.const (Value.bool true)) (.tmp 24), 4, "l12_prices.go:7", #[⟨7, .data⟩, ⟨14, .data⟩], none⟩) (v := ?_) rfl (Or.inl ⟨by rfl, ?_⟩) ?_
   rotate_left
   ·intro w hSw
    (try dsimp only at hSw)
    first | (go_simp; done) | (go_simp; with_reducible rfl)
   (try simp only [Act.put, List.setIfInBounds_toArray, List.set_cons_zero, List.set_cons_succ])
   refine lk33 (i := 16) (oi := ⟨some 26, .move (.tmp 25), 4, "l12_prices.go:7", #[⟨15, .data⟩, ⟨13, .chain⟩], none⟩) (v := ?_) rfl (Or.inl ⟨by rfl, ?_⟩) ?_
   rotate_left
   ·intro w hSw
    (try dsimp only at hSw)
    first | (go_simp; done) | (go_simp; with_reducible rfl)
   (try simp only [Act.put, List.setIfInBounds_toArray, List.set_cons_zero, List.set_cons_succ])
   refine lk33 (i := 17) (oi := ⟨some 27, .move (.tmp 3), 3, "l12_prices.go:7", #[⟨16, .guard⟩], some (16, false)⟩) (v := undef) rfl (Or.inr ⟨by rfl, rfl⟩) ?_
   (try simp only [Act.put, List.setIfInBounds_toArray, List.set_cons_zero, List.set_cons_succ])
   refine lk33 (i := 18) (oi := ⟨some 28, .binOp .gtr 3 (.tmp 27) (.const (Value.int IntKind.i64 0)) 3, 4, "l12_prices.go:7", #[⟨17, .data⟩, ⟨16, .guard⟩], some (16, false)⟩) (v := undef) rfl (Or.inr ⟨by rfl, rfl⟩) ?_
   (try simp only [Act.put, List.setIfInBounds_toArray, List.set_cons_zero, List.set_cons_succ])
   refine lk33 (i := 19) (oi := ⟨some 29, .move (.tmp 28), 4, "l12_prices.go:7", #[⟨18, .data⟩, ⟨16, .chain⟩, ⟨16, .guard⟩], some (16, false)⟩) (v := undef) rfl (Or.inr ⟨by rfl, rfl⟩) ?_
   (try simp only [Act.put, List.setIfInBounds_toArray, List.set_cons_zero, List.set_cons_succ])
   refine lk33 (i := 20) (oi := ⟨some 30, .move (.tmp 0), 25, "l12_prices.go:7", #[⟨19, .guard⟩], some (19, true)⟩) (v := undef) rfl (Or.inr ⟨by rfl, rfl⟩) ?_
   (try simp only [Act.put, List.setIfInBounds_toArray, List.set_cons_zero, List.set_cons_succ])
   refine lk33 (i := 21) (oi := ⟨some 31, .move (.tmp 3), 3, "l12_prices.go:7", #[⟨19, .guard⟩], some (19, true)⟩) (v := undef) rfl (Or.inr ⟨by rfl, rfl⟩) ?_
   (try simp only [Act.put, List.setIfInBounds_toArray, List.set_cons_zero, List.set_cons_succ])
   refine lk33 (i := 22) (oi := ⟨some 32, .binOp .sub 3 (.tmp 31) (.const (Value.int IntKind.i64 1)) 3, 3, "l12_prices.go:7", #[⟨21, .data⟩, ⟨19, .guard⟩], some (19, true)⟩) (v := undef) rfl (Or.inr ⟨by rfl, rfl⟩) ?_
   (try simp only [Act.put, List.setIfInBounds_toArray, List.set_cons_zero, List.set_cons_succ])
   refine lk33 (i := 23) (oi := ⟨some 33, .indexAddr 25 (.tmp 30) (.tmp 32), 0, "l12_prices.go:7", #[⟨20, .data⟩, ⟨22, .data⟩, ⟨19, .guard⟩], some (19, true)⟩) (v := undef) rfl (Or.inr ⟨by rfl, rfl⟩) ?_
   (try simp only [Act.put, List.setIfInBounds_toArray, List.set_cons_zero, List.set_cons_succ])
   refine lk33 (i := 24) (oi := ⟨some 34, .fieldAddr 63 (.tmp 33) 0, 0, "l12_prices.go:7", #[⟨23, .data⟩, ⟨19, .guard⟩], some (19, true)⟩) (v := undef) rfl (Or.inr ⟨by rfl, rfl⟩) ?_
   (try simp only [Act.put, List.setIfInBounds_toArray, List.set_cons_zero, List.set_cons_succ])
   refine lk33 (i := 25) (oi := ⟨some 35, .load 9 (.tmp 34), 9, "l12_prices.go:7", #[⟨24, .data⟩, ⟨19, .guard⟩], some (19, true)⟩) (v := undef) rfl (Or.inr ⟨by rfl, rfl⟩) ?_
   (try simp only [Act.put, List.setIfInBounds_toArray, List.set_cons_zero, List.set_cons_succ])
   refine lk33 (i := 26) (oi := ⟨some 36, .move (.tmp 0), 25, "l12_prices.go:7", #[⟨19, .guard⟩], some (19, true)⟩) (v := undef) rfl (Or.inr ⟨by rfl, rfl⟩) ?_
   (try simp only [Act.put, List.setIfInBounds_toArray, List.set_cons_zero, List.set_cons_succ])
   refine lk33 (i := 27) (oi := ⟨some 37, .move (.tmp 3), 3, "l12_prices.go:7", #[⟨19, .guard⟩], some (19, true)⟩) (v := undef) rfl (Or.inr ⟨by rfl, rfl⟩) ?_
   (try simp only [Act.put, List.setIfInBounds_toArray, List.set_cons_zero, List.set_cons_succ])
   refine lk33 (i := 28) (oi := ⟨some 38, .indexAddr 25 (.tmp 36) (.tmp 37), 0, "l12_prices.go:7", #[⟨26, .data⟩, ⟨27, .data⟩, ⟨19, .guard⟩], some (19, true)⟩) (v := undef) rfl (Or.inr ⟨by rfl, rfl⟩) ?_
   (try simp only [Act.put, List.setIfInBounds_toArray, List.set_cons_zero, List.set_cons_succ])
   refine lk33 (i := 29) (oi := ⟨some 39, .fieldAddr 63 (.tmp 38) 0, 0, "l12_prices.go:7", #[⟨28, .data⟩, ⟨19, .guard⟩], some (19, true)⟩) (v := undef) rfl (Or.inr ⟨by rfl, rfl⟩) ?_
   (try simp only [Act.put, List.setIfInBounds_toArray, List.set_cons_zero, List.set_cons_succ])
   refine lk33 (i := 30) (oi := ⟨some 40, .load 9 (.tmp 39), 9, "l12_prices.go:7", #[⟨29, .data⟩, ⟨19, .guard⟩], some (19, true)⟩) (v := undef) rfl (Or.inr ⟨by rfl, rfl⟩) ?_
   (try simp only [Act.put, List.setIfInBounds_toArray, List.set_cons_zero, List.set_cons_succ])
   refine lk33 (i := 31) (oi := ⟨some 41, .binOp .geq 9 (.tmp 35) (.tmp 40) 9, 4, "l12_prices.go:7", #[⟨25, .data⟩, ⟨30, .data⟩, ⟨19, .guard⟩], some (19, true)⟩) (v := undef) rfl (Or.inr ⟨by rfl, rfl⟩) ?_
   (try simp only [Act.put, List.setIfInBounds_toArray, List.set_cons_zero, List.set_cons_succ])
   refine lk33 (i := 32) (oi := ⟨some 42, .pick (.tmp 29) (.tmp 41) (.const (Value.bool false)), 4, "l12_prices.go:7", #[⟨19, .data⟩, ⟨31, .data⟩, ⟨16, .guard⟩], some (16, false)⟩) (v := undef) rfl (Or.inr ⟨by rfl, rfl⟩) ?_
   (try simp only [Act.put, List.setIfInBounds_toArray, List.set_cons_zero, List.set_cons_succ])
   refine lk33 (i := 33) (oi := ⟨some 43, .pick (.tmp 26) (.const (Value.bool true)) (.tmp 42), 4, "l12_prices.go:7", #[⟨16, .data⟩, ⟨32, .data⟩], none⟩) (v := ?_) rfl (Or.inl ⟨by rfl, ?_⟩) ?_
   rotate_left
   ·intro w hSw
    (try dsimp only at hSw)
    first | (go_simp; done) | (go_simp; with_reducible rfl)
   (try simp only [Act.put, List.setIfInBounds_toArray, List.set_cons_zero, List.set_cons_succ])
   refine wpAnyH_done (by kernel_rfl) ?_ _
   have HF := Lib.hid (HNo.out (HOk.out.trans HB.out))
   go_wp2
   go_ret
   exact ⟨by rw [HD.out, HF.out]; rfl, rfl, rfl, rfl, Nat.le_refl _, fun _ _ => rfl⟩
  have Hit := Lib.hid hit
  rcases hrg : inB x.cents 1 1000000 with _ | _
  ·have Hrg := Lib.hid hrg
   have HB : Hid (x.ok = false) := by show x.ok = false; unfold PrV.ok; rw [hrg, Bool.and_false]
   clear hrg hit
   have hS : (w.drewN m).drew.cell? ⟨b, off + k * 2, none⟩ = some (.string x.item) ∧ (w.drewN m).drew.cell? ⟨b, off + k * 2 + 1, none⟩ = some (.int .i64 x.cents) ∧ (w.drewN m).drew.cell? ⟨b, off + j * 2, none⟩ = some (.string z.item) := ⟨d0, d1, e0⟩
   go_wp2_with fail
   refine wp_region_held_drew (S := fun w' => w'.cell? ⟨b, off + k * 2, none⟩ = some (.string x.item) ∧ w'.cell? ⟨b, off + k * 2 + 1, none⟩ = some (.int .i64 x.cents) ∧ w'.cell? ⟨b, off + j * 2, none⟩ = some (.string z.item)) (by kernel_rfl) hS (fun hHeld => ?_)
   clear hHeld
   refine lk33 (i := 0) (oi := ⟨some 10, .move (.tmp 0), 25, "l12_prices.go:7", #[], none⟩) (v := ?_) rfl (Or.inl ⟨by rfl, ?_⟩) ?_
   rotate_left
   ·intro w hSw
    (try dsimp only at hSw)
    first | (go_simp; done) | (go_simp; with_reducible rfl)
   (try simp only [Act.put, List.setIfInBounds_toArray, List.set_cons_zero, List.set_cons_succ])
   refine lk33 (i := 1) (oi := ⟨some 11, .move (.tmp 3), 3, "l12_prices.go:7", #[], none⟩) (v := ?_) rfl (Or.inl ⟨by rfl, ?_⟩) ?_
   rotate_left
   ·intro w hSw
    (try dsimp only at hSw)
    first | (go_simp; done) | (go_simp; with_reducible rfl)
   (try simp only [Act.put, List.setIfInBounds_toArray, List.set_cons_zero, List.set_cons_succ])
   refine lk33 (i := 2) (oi := ⟨some 12, .indexAddr 25 (.tmp 10) (.tmp 11), 0, "l12_prices.go:7", #[⟨0, .data⟩, ⟨1, .data⟩], none⟩) (v := ?_) rfl (Or.inl ⟨by rfl, ?_⟩) ?_
   rotate_left
   ·intro w hSw
    (try dsimp only at hSw)
    first | (go_simp; done) | (go_simp; with_reducible rfl)
   (try simp only [Act.put, List.setIfInBounds_toArray, List.set_cons_zero, List.set_cons_succ])
   refine lk33 (i := 3) (oi := ⟨some 13, .fieldAddr 63 (.tmp 12) 0, 0, "l12_prices.go:7", #[⟨2, .data⟩], none⟩) (v := ?_) rfl (Or.inl ⟨by rfl, ?_⟩) ?_
   rotate_left
   ·intro w hSw
    (try dsimp only at hSw)
    first | (go_simp; done) | (go_simp; with_reducible rfl)
   (try simp only [Act.put, List.setIfInBounds_toArray, List.set_cons_zero, List.set_cons_succ])
   refine lk33 (i := 4) (oi := ⟨some 14, .load 9 (.tmp 13), 9, "l12_prices.go:7", #[⟨3, .data⟩], none⟩) (v := ?_) rfl (Or.inl ⟨by rfl, ?_⟩) ?_
   rotate_left
   ·intro w hSw
    (try dsimp only at hSw)
    first | (go_simp; done) | (go_simp; with_reducible rfl)
   (try simp only [Act.put, List.setIfInBounds_toArray, List.set_cons_zero, List.set_cons_succ])
   refine rk 5 rfl (fun K hK => ?_)
   go_simp
   go_at_call 33
   refine (l3Item x.item hio _).mono ?_
   rintro e w2 ⟨rfl, rfl⟩
   rw [Hit.out]
   refine hK.out _ _ hS (fun hHeld2 => ?_)
   clear hK K
   (try simp only [Act.put, List.setIfInBounds_toArray, List.set_cons_zero, List.set_cons_succ])
   refine lk33 (i := 6) (oi := ⟨some 16, .unOp .not 4 (.tmp 15), 4, "l12_prices.go:7", #[⟨5, .data⟩], none⟩) (v := ?_) rfl (Or.inl ⟨by rfl, ?_⟩) ?_
   rotate_left
   ·intro w hSw
    (try dsimp only at hSw)
    first | (go_simp; done) | (go_simp; with_reducible rfl)
   (try simp only [Act.put, List.setIfInBounds_toArray, List.set_cons_zero, List.set_cons_succ])
   refine lk33 (i := 7) (oi := ⟨some 17, .move (.tmp 16), 4, "l12_prices.go:7", #[⟨6, .data⟩, ⟨5, .chain⟩], none⟩) (v := ?_) rfl (Or.inl ⟨by rfl, ?_⟩) ?_
   rotate_left
   ·intro w hSw
    (try dsimp only at hSw)
    first | (go_simp; done) | (go_simp; with_reducible rfl)
   (try simp only [Act.put, List.setIfInBounds_toArray, List.set_cons_zero, List.set_cons_succ])
   refine lk33 (i := 8) (oi := ⟨some 18, .move (.tmp 0), 25, "l12_prices.go:7", #[⟨7, .guard⟩], some (7, false)⟩) (v := ?_) rfl (Or.inl ⟨by rfl, ?_⟩) ?_
   rotate_left
   ·intro w hSw
    (try dsimp only at hSw)
    first | (go_simp; done) | (go_simp; with_reducible rfl)
   (try simp only [Act.put, List.setIfInBounds_toArray, List.set_cons_zero, List.set_cons_succ])
   refine lk33 (i := 9) (oi := ⟨some 19, .move (.tmp 3), 3, "l12_prices.go:7", #[⟨7, .guard⟩], some (7, false)⟩) (v := ?_) rfl (Or.inl ⟨by rfl, ?_⟩) ?_
   rotate_left
   ·intro w hSw
    (try dsimp only at hSw)
    first | (go_simp; done) | (go_simp; with_reducible rfl)
   (try simp only [Act.put, List.setIfInBounds_toArray, List.set_cons_zero, List.set_cons_succ])
   refine lk33 (i := 10) (oi := ⟨some 20, .indexAddr 25 (.tmp 18) (.tmp 19), 0, "l12_prices.go:7", #[⟨8, .data⟩, ⟨9, .data⟩, ⟨7, .guard⟩], some (7, false)⟩) (v := ?_) rfl (Or.inl ⟨by rfl, ?_⟩) ?_
   rotate_left
   ·intro w hSw
    (try dsimp only at hSw)
    first | (go_simp; done) | (go_simp; with_reducible rfl)
   (try simp only [Act.put, List.setIfInBounds_toArray, List.set_cons_zero, List.set_cons_succ])
   refine lk33 (i := 11) (oi := ⟨some 21, .fieldAddr 63 (.tmp 20) 1, 0, "l12_prices.go:7", #[⟨10, .data⟩, ⟨7, .guard⟩], some (7, false)⟩) (v := ?_) rfl (Or.inl ⟨by rfl, ?_⟩) ?_
   rotate_left
   ·intro w hSw
    (try dsimp only at hSw)
    first | (go_simp; done) | (go_simp; with_reducible rfl)
   (try simp only [Act.put, List.setIfInBounds_toArray, List.set_cons_zero, List.set_cons_succ])
   refine lk33 (i := 12) (oi := ⟨some 22, .load 2 (.tmp 21), 2, "l12_prices.go:7", #[⟨11, .data⟩, ⟨7, .guard⟩], some (7, false)⟩) (v := ?_) rfl (Or.inl ⟨by rfl, ?_⟩) ?_
   rotate_left
   ·intro w hSw
    (try dsimp only at hSw)
    first | (go_simp; done) | (go_simp; with_reducible rfl)
   (try simp only [Act.put, List.setIfInBounds_toArray, List.set_cons_zero, List.set_cons_succ])
   refine rk 13 rfl (fun K hK => ?_)
   go_simp
   go_at_call 34
   refine (l1In x.cents 1 1000000 _).mono ?_
   rintro e w2 ⟨rfl, rfl⟩
   rw [Hrg.out]
   refine hK.out _ _ hS (fun hHeld3 => ?_)
   clear hK K
   (try simp only [Act.put, List.setIfInBounds_toArray, List.set_cons_zero, List.set_cons_succ])
   refine lk33 (i := 14) (oi := ⟨some 24, .unOp .not 4 (.tmp 23), 4, "l12_prices.go:7", #[⟨13, .data⟩, ⟨7, .guard⟩], some (7, false)⟩) (v := ?_) rfl (Or.inl ⟨by rfl, ?_⟩) ?_
   rotate_left
   ·intro w hSw
    (try dsimp only at hSw)
    first | (go_simp; done) | (go_simp; with_reducible rfl)
   (try simp only [Act.put, List.setIfInBounds_toArray, List.set_cons_zero, List.set_cons_succ])
   refine lk33 (i := 15) (oi := ⟨some 25, .pick (.tmp 17) (.const (Value.bool true)) (.tmp 24), 4, "l12_prices.go:7", #[⟨7, .data⟩, ⟨14, .data⟩], none⟩) (v := ?_) rfl (Or.inl ⟨by rfl, ?_⟩) ?_
   rotate_left
   ·intro w hSw
    (try dsimp only at hSw)
    first | (go_simp; done) | (go_simp; with_reducible rfl)
   (try simp only [Act.put, List.setIfInBounds_toArray, List.set_cons_zero, List.set_cons_succ])
   refine lk33 (i := 16) (oi := ⟨some 26, .move (.tmp 25), 4, "l12_prices.go:7", #[⟨15, .data⟩, ⟨13, .chain⟩], none⟩) (v := ?_) rfl (Or.inl ⟨by rfl, ?_⟩) ?_
   rotate_left
   ·intro w hSw
    (try dsimp only at hSw)
    first | (go_simp; done) | (go_simp; with_reducible rfl)
   (try simp only [Act.put, List.setIfInBounds_toArray, List.set_cons_zero, List.set_cons_succ])
   refine lk33 (i := 17) (oi := ⟨some 27, .move (.tmp 3), 3, "l12_prices.go:7", #[⟨16, .guard⟩], some (16, false)⟩) (v := undef) rfl (Or.inr ⟨by rfl, rfl⟩) ?_
   (try simp only [Act.put, List.setIfInBounds_toArray, List.set_cons_zero, List.set_cons_succ])
   refine lk33 (i := 18) (oi := ⟨some 28, .binOp .gtr 3 (.tmp 27) (.const (Value.int IntKind.i64 0)) 3, 4, "l12_prices.go:7", #[⟨17, .data⟩, ⟨16, .guard⟩], some (16, false)⟩) (v := undef) rfl (Or.inr ⟨by rfl, rfl⟩) ?_
   (try simp only [Act.put, List.setIfInBounds_toArray, List.set_cons_zero, List.set_cons_succ])
   refine lk33 (i := 19) (oi := ⟨some 29, .move (.tmp 28), 4, "l12_prices.go:7", #[⟨18, .data⟩, ⟨16, .chain⟩, ⟨16, .guard⟩], some (16, false)⟩) (v := undef) rfl (Or.inr ⟨by rfl, rfl⟩) ?_
   (try simp only [Act.put, List.setIfInBounds_toArray, List.set_cons_zero, List.set_cons_succ])
   refine lk33 (i := 20) (oi := ⟨some 30, .move (.tmp 0), 25, "l12_prices.go:7", #[⟨19, .guard⟩], some (19, true)⟩) (v := undef) rfl (Or.inr ⟨by rfl, rfl⟩) ?_
   (try simp only [Act.put, List.setIfInBounds_toArray, List.set_cons_zero, List.set_cons_succ])
   refine lk33 (i := 21) (oi := ⟨some 31, .move (.tmp 3), 3, "l12_prices.go:7", #[⟨19, .guard⟩], some (19, true)⟩) (v := undef) rfl (Or.inr ⟨by rfl, rfl⟩) ?_
   (try simp only [Act.put, List.setIfInBounds_toArray, List.set_cons_zero, List.set_cons_succ])
   refine lk33 (i := 22) (oi := ⟨some 32, .binOp .sub 3 (.tmp 31) (.const (Value.int IntKind.i64 1)) 3, 3, "l12_prices.go:7", #[⟨21, .data⟩, ⟨19, .guard⟩], some (19, true)⟩) (v := undef) rfl (Or.inr ⟨by rfl, rfl⟩) ?_
   (try simp only [Act.put, List.setIfInBounds_toArray, List.set_cons_zero, List.set_cons_succ])
   refine lk33 (i := 23) (oi := ⟨some 33, .indexAddr 25 (.tmp 30) (.tmp 32), 0, "l12_prices.go:7", #[⟨20, .data⟩, ⟨22, .data⟩, ⟨19, .guard⟩], some (19, true)⟩) (v := undef) rfl (Or.inr ⟨by rfl, rfl⟩) ?_
   (try simp only [Act.put, List.setIfInBounds_toArray, List.set_cons_zero, List.set_cons_succ])
   refine lk33 (i := 24) (oi := ⟨some 34, .fieldAddr 63 (.tmp 33) 0, 0, "l12_prices.go:7", #[⟨23, .data⟩, ⟨19, .guard⟩], some (19, true)⟩) (v := undef) rfl (Or.inr ⟨by rfl, rfl⟩) ?_
   (try simp only [Act.put, List.setIfInBounds_toArray, List.set_cons_zero, List.set_cons_succ])
   refine lk33 (i := 25) (oi := ⟨some 35, .load 9 (.tmp 34), 9, "l12_prices.go:7", #[⟨24, .data⟩, ⟨19, .guard⟩], some (19, true)⟩) (v := undef) rfl (Or.inr ⟨by rfl, rfl⟩) ?_
   (try simp only [Act.put, List.setIfInBounds_toArray, List.set_cons_zero, List.set_cons_succ])
   refine lk33 (i := 26) (oi := ⟨some 36, .move (.tmp 0), 25, "l12_prices.go:7", #[⟨19, .guard⟩], some (19, true)⟩) (v := undef) rfl (Or.inr ⟨by rfl, rfl⟩) ?_
   (try simp only [Act.put, List.setIfInBounds_toArray, List.set_cons_zero, List.set_cons_succ])
   refine lk33 (i := 27) (oi := ⟨some 37, .move (.tmp 3), 3, "l12_prices.go:7", #[⟨19, .guard⟩], some (19, true)⟩) (v := undef) rfl (Or.inr ⟨by rfl, rfl⟩) ?_
   (try simp only [Act.put, List.setIfInBounds_toArray, List.set_cons_zero, List.set_cons_succ])
   refine lk33 (i := 28) (oi := ⟨some 38, .indexAddr 25 (.tmp 36) (.tmp 37), 0, "l12_prices.go:7", #[⟨26, .data⟩, ⟨27, .data⟩, ⟨19, .guard⟩], some (19, true)⟩) (v := undef) rfl (Or.inr ⟨by rfl, rfl⟩) ?_
   (try simp only [Act.put, List.setIfInBounds_toArray, List.set_cons_zero, List.set_cons_succ])
   refine lk33 (i := 29) (oi := ⟨some 39, .fieldAddr 63 (.tmp 38) 0, 0, "l12_prices.go:7", #[⟨28, .data⟩, ⟨19, .guard⟩], some (19, true)⟩) (v := undef) rfl (Or.inr ⟨by rfl, rfl⟩) ?_
   (try simp only [Act.put, List.setIfInBounds_toArray, List.set_cons_zero, List.set_cons_succ])
   refine lk33 (i := 30) (oi := ⟨some 40, .load 9 (.tmp 39), 9, "l12_prices.go:7", #[⟨29, .data⟩, ⟨19, .guard⟩], some (19, true)⟩) (v := undef) rfl (Or.inr ⟨by rfl, rfl⟩) ?_
   (try simp only [Act.put, List.setIfInBounds_toArray, List.set_cons_zero, List.set_cons_succ])
   refine lk33 (i := 31) (oi := ⟨some 41, .binOp .geq 9 (.tmp 35) (.tmp 40) 9, 4, "l12_prices.go:7", #[⟨25, .data⟩, ⟨30, .data⟩, ⟨19, .guard⟩], some (19, true)⟩) (v := undef) rfl (Or.inr ⟨by rfl, rfl⟩) ?_
   (try simp only [Act.put, List.setIfInBounds_toArray, List.set_cons_zero, List.set_cons_succ])
   refine lk33 (i := 32) (oi := ⟨some 42, .pick (.tmp 29) (.tmp 41) (.const (Value.bool false)), 4, "l12_prices.go:7", #[⟨19, .data⟩, ⟨31, .data⟩, ⟨16, .guard⟩], some (16, false)⟩) (v := undef) rfl (Or.inr ⟨by rfl, rfl⟩) ?_
   (try simp only [Act.put, List.setIfInBounds_toArray, List.set_cons_zero, List.set_cons_succ])
   refine lk33 (i := 33) (oi := ⟨some 43, .pick (.tmp 26) (.const (Value.bool true)) (.tmp 42), 4, "l12_prices.go:7", #[⟨16, .data⟩, ⟨32, .data⟩], none⟩) (v := ?_) rfl (Or.inl ⟨by rfl, ?_⟩) ?_
   rotate_left
   ·intro w hSw
    (try dsimp only at hSw)
    first | (go_simp; done) | (go_simp; with_reducible rfl)
   (try simp only [Act.put, List.setIfInBounds_toArray, List.set_cons_zero, List.set_cons_succ])
   refine wpAnyH_done (by kernel_rfl) ?_ _
   have HF := Lib.hid (HNo.out (HOk.out.trans HB.out))
   go_wp2
   go_ret
   exact ⟨by rw [HD.out, HF.out]; rfl, rfl, rfl, rfl, Nat.le_refl _, fun _ _ => rfl⟩
  have Hrg := Lib.hid hrg
  have HOy : Prok l k = true := HOk.out.trans (by show x.ok = true; unfold PrV.ok; rw [hit, hrg]; rfl)
  have HOY := Lib.hid HOy
  clear hit hrg HOy
  rcases hls : ltS z.item x.item with _ | _
  ·have hbl : Op.bytesLess z.item.toList x.item.toList = false := hls
   have HF := Lib.hid (HNi.out (HIk.out.trans hls))
   clear hls
   have hS : (w.drewN m).drew.cell? ⟨b, off + k * 2, none⟩ = some (.string x.item) ∧ (w.drewN m).drew.cell? ⟨b, off + k * 2 + 1, none⟩ = some (.int .i64 x.cents) ∧ (w.drewN m).drew.cell? ⟨b, off + j * 2, none⟩ = some (.string z.item) := ⟨d0, d1, e0⟩
   go_wp2_with fail
   refine wp_region_held_drew (S := fun w' => w'.cell? ⟨b, off + k * 2, none⟩ = some (.string x.item) ∧ w'.cell? ⟨b, off + k * 2 + 1, none⟩ = some (.int .i64 x.cents) ∧ w'.cell? ⟨b, off + j * 2, none⟩ = some (.string z.item)) (by kernel_rfl) hS (fun hHeld => ?_)
   clear hHeld
   refine lk33 (i := 0) (oi := ⟨some 10, .move (.tmp 0), 25, "l12_prices.go:7", #[], none⟩) (v := ?_) rfl (Or.inl ⟨by rfl, ?_⟩) ?_
   rotate_left
   ·intro w hSw
    (try dsimp only at hSw)
    first | (go_simp; done) | (go_simp; with_reducible rfl)
   (try simp only [Act.put, List.setIfInBounds_toArray, List.set_cons_zero, List.set_cons_succ])
   refine lk33 (i := 1) (oi := ⟨some 11, .move (.tmp 3), 3, "l12_prices.go:7", #[], none⟩) (v := ?_) rfl (Or.inl ⟨by rfl, ?_⟩) ?_
   rotate_left
   ·intro w hSw
    (try dsimp only at hSw)
    first | (go_simp; done) | (go_simp; with_reducible rfl)
   (try simp only [Act.put, List.setIfInBounds_toArray, List.set_cons_zero, List.set_cons_succ])
   refine lk33 (i := 2) (oi := ⟨some 12, .indexAddr 25 (.tmp 10) (.tmp 11), 0, "l12_prices.go:7", #[⟨0, .data⟩, ⟨1, .data⟩], none⟩) (v := ?_) rfl (Or.inl ⟨by rfl, ?_⟩) ?_
   rotate_left
   ·intro w hSw
    (try dsimp only at hSw)
    first | (go_simp; done) | (go_simp; with_reducible rfl)
   (try simp only [Act.put, List.setIfInBounds_toArray, List.set_cons_zero, List.set_cons_succ])
   refine lk33 (i := 3) (oi := ⟨some 13, .fieldAddr 63 (.tmp 12) 0, 0, "l12_prices.go:7", #[⟨2, .data⟩], none⟩) (v := ?_) rfl (Or.inl ⟨by rfl, ?_⟩) ?_
   rotate_left
   ·intro w hSw
    (try dsimp only at hSw)
    first | (go_simp; done) | (go_simp; with_reducible rfl)
   (try simp only [Act.put, List.setIfInBounds_toArray, List.set_cons_zero, List.set_cons_succ])
   refine lk33 (i := 4) (oi := ⟨some 14, .load 9 (.tmp 13), 9, "l12_prices.go:7", #[⟨3, .data⟩], none⟩) (v := ?_) rfl (Or.inl ⟨by rfl, ?_⟩) ?_
   rotate_left
   ·intro w hSw
    (try dsimp only at hSw)
    first | (go_simp; done) | (go_simp; with_reducible rfl)
   (try simp only [Act.put, List.setIfInBounds_toArray, List.set_cons_zero, List.set_cons_succ])
   refine rk 5 rfl (fun K hK => ?_)
   go_simp
   go_at_call 33
   refine (l3Item x.item hio _).mono ?_
   rintro e w2 ⟨rfl, rfl⟩
   rw [Hit.out]
   refine hK.out _ _ hS (fun hHeld2 => ?_)
   clear hK K
   (try simp only [Act.put, List.setIfInBounds_toArray, List.set_cons_zero, List.set_cons_succ])
   refine lk33 (i := 6) (oi := ⟨some 16, .unOp .not 4 (.tmp 15), 4, "l12_prices.go:7", #[⟨5, .data⟩], none⟩) (v := ?_) rfl (Or.inl ⟨by rfl, ?_⟩) ?_
   rotate_left
   ·intro w hSw
    (try dsimp only at hSw)
    first | (go_simp; done) | (go_simp; with_reducible rfl)
   (try simp only [Act.put, List.setIfInBounds_toArray, List.set_cons_zero, List.set_cons_succ])
   refine lk33 (i := 7) (oi := ⟨some 17, .move (.tmp 16), 4, "l12_prices.go:7", #[⟨6, .data⟩, ⟨5, .chain⟩], none⟩) (v := ?_) rfl (Or.inl ⟨by rfl, ?_⟩) ?_
   rotate_left
   ·intro w hSw
    (try dsimp only at hSw)
    first | (go_simp; done) | (go_simp; with_reducible rfl)
   (try simp only [Act.put, List.setIfInBounds_toArray, List.set_cons_zero, List.set_cons_succ])
   refine lk33 (i := 8) (oi := ⟨some 18, .move (.tmp 0), 25, "l12_prices.go:7", #[⟨7, .guard⟩], some (7, false)⟩) (v := ?_) rfl (Or.inl ⟨by rfl, ?_⟩) ?_
   rotate_left
   ·intro w hSw
    (try dsimp only at hSw)
    first | (go_simp; done) | (go_simp; with_reducible rfl)
   (try simp only [Act.put, List.setIfInBounds_toArray, List.set_cons_zero, List.set_cons_succ])
   refine lk33 (i := 9) (oi := ⟨some 19, .move (.tmp 3), 3, "l12_prices.go:7", #[⟨7, .guard⟩], some (7, false)⟩) (v := ?_) rfl (Or.inl ⟨by rfl, ?_⟩) ?_
   rotate_left
   ·intro w hSw
    (try dsimp only at hSw)
    first | (go_simp; done) | (go_simp; with_reducible rfl)
   (try simp only [Act.put, List.setIfInBounds_toArray, List.set_cons_zero, List.set_cons_succ])
   refine lk33 (i := 10) (oi := ⟨some 20, .indexAddr 25 (.tmp 18) (.tmp 19), 0, "l12_prices.go:7", #[⟨8, .data⟩, ⟨9, .data⟩, ⟨7, .guard⟩], some (7, false)⟩) (v := ?_) rfl (Or.inl ⟨by rfl, ?_⟩) ?_
   rotate_left
   ·intro w hSw
    (try dsimp only at hSw)
    first | (go_simp; done) | (go_simp; with_reducible rfl)
   (try simp only [Act.put, List.setIfInBounds_toArray, List.set_cons_zero, List.set_cons_succ])
   refine lk33 (i := 11) (oi := ⟨some 21, .fieldAddr 63 (.tmp 20) 1, 0, "l12_prices.go:7", #[⟨10, .data⟩, ⟨7, .guard⟩], some (7, false)⟩) (v := ?_) rfl (Or.inl ⟨by rfl, ?_⟩) ?_
   rotate_left
   ·intro w hSw
    (try dsimp only at hSw)
    first | (go_simp; done) | (go_simp; with_reducible rfl)
   (try simp only [Act.put, List.setIfInBounds_toArray, List.set_cons_zero, List.set_cons_succ])
   refine lk33 (i := 12) (oi := ⟨some 22, .load 2 (.tmp 21), 2, "l12_prices.go:7", #[⟨11, .data⟩, ⟨7, .guard⟩], some (7, false)⟩) (v := ?_) rfl (Or.inl ⟨by rfl, ?_⟩) ?_
   rotate_left
   ·intro w hSw
    (try dsimp only at hSw)
    first | (go_simp; done) | (go_simp; with_reducible rfl)
   (try simp only [Act.put, List.setIfInBounds_toArray, List.set_cons_zero, List.set_cons_succ])
   refine rk 13 rfl (fun K hK => ?_)
   go_simp
   go_at_call 34
   refine (l1In x.cents 1 1000000 _).mono ?_
   rintro e w2 ⟨rfl, rfl⟩
   rw [Hrg.out]
   refine hK.out _ _ hS (fun hHeld3 => ?_)
   clear hK K
   (try simp only [Act.put, List.setIfInBounds_toArray, List.set_cons_zero, List.set_cons_succ])
   refine lk33 (i := 14) (oi := ⟨some 24, .unOp .not 4 (.tmp 23), 4, "l12_prices.go:7", #[⟨13, .data⟩, ⟨7, .guard⟩], some (7, false)⟩) (v := ?_) rfl (Or.inl ⟨by rfl, ?_⟩) ?_
   rotate_left
   ·intro w hSw
    (try dsimp only at hSw)
    first | (go_simp; done) | (go_simp; with_reducible rfl)
   (try simp only [Act.put, List.setIfInBounds_toArray, List.set_cons_zero, List.set_cons_succ])
   refine lk33 (i := 15) (oi := ⟨some 25, .pick (.tmp 17) (.const (Value.bool true)) (.tmp 24), 4, "l12_prices.go:7", #[⟨7, .data⟩, ⟨14, .data⟩], none⟩) (v := ?_) rfl (Or.inl ⟨by rfl, ?_⟩) ?_
   rotate_left
   ·intro w hSw
    (try dsimp only at hSw)
    first | (go_simp; done) | (go_simp; with_reducible rfl)
   (try simp only [Act.put, List.setIfInBounds_toArray, List.set_cons_zero, List.set_cons_succ])
   refine lk33 (i := 16) (oi := ⟨some 26, .move (.tmp 25), 4, "l12_prices.go:7", #[⟨15, .data⟩, ⟨13, .chain⟩], none⟩) (v := ?_) rfl (Or.inl ⟨by rfl, ?_⟩) ?_
   rotate_left
   ·intro w hSw
    (try dsimp only at hSw)
    first | (go_simp; done) | (go_simp; with_reducible rfl)
   (try simp only [Act.put, List.setIfInBounds_toArray, List.set_cons_zero, List.set_cons_succ])
   refine lk33 (i := 17) (oi := ⟨some 27, .move (.tmp 3), 3, "l12_prices.go:7", #[⟨16, .guard⟩], some (16, false)⟩) (v := ?_) rfl (Or.inl ⟨by rfl, ?_⟩) ?_
   rotate_left
   ·intro w hSw
    (try dsimp only at hSw)
    first | (go_simp; done) | (go_simp; with_reducible rfl)
   (try simp only [Act.put, List.setIfInBounds_toArray, List.set_cons_zero, List.set_cons_succ])
   refine lk33 (i := 18) (oi := ⟨some 28, .binOp .gtr 3 (.tmp 27) (.const (Value.int IntKind.i64 0)) 3, 4, "l12_prices.go:7", #[⟨17, .data⟩, ⟨16, .guard⟩], some (16, false)⟩) (v := ?_) rfl (Or.inl ⟨by rfl, ?_⟩) ?_
   rotate_left
   ·intro w hSw
    (try dsimp only at hSw)
    first | (go_simp; done) | (go_simp; with_reducible rfl)
   (try simp only [Act.put, List.setIfInBounds_toArray, List.set_cons_zero, List.set_cons_succ])
   refine lk33 (i := 19) (oi := ⟨some 29, .move (.tmp 28), 4, "l12_prices.go:7", #[⟨18, .data⟩, ⟨16, .chain⟩, ⟨16, .guard⟩], some (16, false)⟩) (v := ?_) rfl (Or.inl ⟨by rfl, ?_⟩) ?_
   rotate_left
   ·intro w hSw
    (try dsimp only at hSw)
    first | (go_simp; done) | (go_simp; with_reducible rfl)
   (try simp only [Act.put, List.setIfInBounds_toArray, List.set_cons_zero, List.set_cons_succ])
   refine lk33 (i := 20) (oi := ⟨some 30, .move (.tmp 0), 25, "l12_prices.go:7", #[⟨19, .guard⟩], some (19, true)⟩) (v := ?_) rfl (Or.inl ⟨by rfl, ?_⟩) ?_
   rotate_left
   ·intro w hSw
    (try dsimp only at hSw)
    first | (go_simp; done) | (go_simp; with_reducible rfl)
   (try simp only [Act.put, List.setIfInBounds_toArray, List.set_cons_zero, List.set_cons_succ])
   refine lk33 (i := 21) (oi := ⟨some 31, .move (.tmp 3), 3, "l12_prices.go:7", #[⟨19, .guard⟩], some (19, true)⟩) (v := ?_) rfl (Or.inl ⟨by rfl, ?_⟩) ?_
   rotate_left
   ·intro w hSw
    (try dsimp only at hSw)
    first | (go_simp; done) | (go_simp; with_reducible rfl)
   (try simp only [Act.put, List.setIfInBounds_toArray, List.set_cons_zero, List.set_cons_succ])
   refine lk33 (i := 22) (oi := ⟨some 32, .binOp .sub 3 (.tmp 31) (.const (Value.int IntKind.i64 1)) 3, 3, "l12_prices.go:7", #[⟨21, .data⟩, ⟨19, .guard⟩], some (19, true)⟩) (v := ?_) rfl (Or.inl ⟨by rfl, ?_⟩) ?_
   rotate_left
   ·intro w hSw
    (try dsimp only at hSw)
    first | (go_simp; done) | (go_simp; with_reducible rfl)
   (try simp only [Act.put, List.setIfInBounds_toArray, List.set_cons_zero, List.set_cons_succ])
   refine lk33 (i := 23) (oi := ⟨some 33, .indexAddr 25 (.tmp 30) (.tmp 32), 0, "l12_prices.go:7", #[⟨20, .data⟩, ⟨22, .data⟩, ⟨19, .guard⟩], some (19, true)⟩) (v := ?_) rfl (Or.inl ⟨by rfl, ?_⟩) ?_
   rotate_left
   ·intro w hSw
    (try dsimp only at hSw)
    first | (go_simp; done) | (go_simp; with_reducible rfl)
   (try simp only [Act.put, List.setIfInBounds_toArray, List.set_cons_zero, List.set_cons_succ])
   refine lk33 (i := 24) (oi := ⟨some 34, .fieldAddr 63 (.tmp 33) 0, 0, "l12_prices.go:7", #[⟨23, .data⟩, ⟨19, .guard⟩], some (19, true)⟩) (v := ?_) rfl (Or.inl ⟨by rfl, ?_⟩) ?_
   rotate_left
   ·intro w hSw
    (try dsimp only at hSw)
    first | (go_simp; done) | (go_simp; with_reducible rfl)
   (try simp only [Act.put, List.setIfInBounds_toArray, List.set_cons_zero, List.set_cons_succ])
   refine lk33 (i := 25) (oi := ⟨some 35, .load 9 (.tmp 34), 9, "l12_prices.go:7", #[⟨24, .data⟩, ⟨19, .guard⟩], some (19, true)⟩) (v := ?_) rfl (Or.inl ⟨by rfl, ?_⟩) ?_
   rotate_left
   ·intro w hSw
    (try dsimp only at hSw)
    first | (go_simp; done) | (go_simp; with_reducible rfl)
   (try simp only [Act.put, List.setIfInBounds_toArray, List.set_cons_zero, List.set_cons_succ])
   refine lk33 (i := 26) (oi := ⟨some 36, .move (.tmp 0), 25, "l12_prices.go:7", #[⟨19, .guard⟩], some (19, true)⟩) (v := ?_) rfl (Or.inl ⟨by rfl, ?_⟩) ?_
   rotate_left
   ·intro w hSw
    (try dsimp only at hSw)
    first | (go_simp; done) | (go_simp; with_reducible rfl)
   (try simp only [Act.put, List.setIfInBounds_toArray, List.set_cons_zero, List.set_cons_succ])
   refine lk33 (i := 27) (oi := ⟨some 37, .move (.tmp 3), 3, "l12_prices.go:7", #[⟨19, .guard⟩], some (19, true)⟩) (v := ?_) rfl (Or.inl ⟨by rfl, ?_⟩) ?_
   rotate_left
   ·intro w hSw
    (try dsimp only at hSw)
    first | (go_simp; done) | (go_simp; with_reducible rfl)
   (try simp only [Act.put, List.setIfInBounds_toArray, List.set_cons_zero, List.set_cons_succ])
   refine lk33 (i := 28) (oi := ⟨some 38, .indexAddr 25 (.tmp 36) (.tmp 37), 0, "l12_prices.go:7", #[⟨26, .data⟩, ⟨27, .data⟩, ⟨19, .guard⟩], some (19, true)⟩) (v := ?_) rfl (Or.inl ⟨by rfl, ?_⟩) ?_
   rotate_left
   ·intro w hSw
    (try dsimp only at hSw)
    first | (go_simp; done) | (go_simp; with_reducible rfl)
   (try simp only [Act.put, List.setIfInBounds_toArray, List.set_cons_zero, List.set_cons_succ])
   refine lk33 (i := 29) (oi := ⟨some 39, .fieldAddr 63 (.tmp 38) 0, 0, "l12_prices.go:7", #[⟨28, .data⟩, ⟨19, .guard⟩], some (19, true)⟩) (v := ?_) rfl (Or.inl ⟨by rfl, ?_⟩) ?_
   rotate_left
   ·intro w hSw
    (try dsimp only at hSw)
    first | (go_simp; done) | (go_simp; with_reducible rfl)
   (try simp only [Act.put, List.setIfInBounds_toArray, List.set_cons_zero, List.set_cons_succ])
   refine lk33 (i := 30) (oi := ⟨some 40, .load 9 (.tmp 39), 9, "l12_prices.go:7", #[⟨29, .data⟩, ⟨19, .guard⟩], some (19, true)⟩) (v := ?_) rfl (Or.inl ⟨by rfl, ?_⟩) ?_
   rotate_left
   ·intro w hSw
    (try dsimp only at hSw)
    first | (go_simp; done) | (go_simp; with_reducible rfl)
   (try simp only [Act.put, List.setIfInBounds_toArray, List.set_cons_zero, List.set_cons_succ])
   refine lk33 (i := 31) (oi := ⟨some 41, .binOp .geq 9 (.tmp 35) (.tmp 40) 9, 4, "l12_prices.go:7", #[⟨25, .data⟩, ⟨30, .data⟩, ⟨19, .guard⟩], some (19, true)⟩) (v := ?_) rfl (Or.inl ⟨by rfl, ?_⟩) ?_
   rotate_left
   ·intro w hSw
    (try dsimp only at hSw)
    first | (go_simp; done) | (go_simp; with_reducible rfl)
   (try simp only [Act.put, List.setIfInBounds_toArray, List.set_cons_zero, List.set_cons_succ])
   refine lk33 (i := 32) (oi := ⟨some 42, .pick (.tmp 29) (.tmp 41) (.const (Value.bool false)), 4, "l12_prices.go:7", #[⟨19, .data⟩, ⟨31, .data⟩, ⟨16, .guard⟩], some (16, false)⟩) (v := ?_) rfl (Or.inl ⟨by rfl, ?_⟩) ?_
   rotate_left
   ·intro w hSw
    (try dsimp only at hSw)
    first | (go_simp; done) | (go_simp; with_reducible rfl)
   (try simp only [Act.put, List.setIfInBounds_toArray, List.set_cons_zero, List.set_cons_succ])
   refine lk33 (i := 33) (oi := ⟨some 43, .pick (.tmp 26) (.const (Value.bool true)) (.tmp 42), 4, "l12_prices.go:7", #[⟨16, .data⟩, ⟨32, .data⟩], none⟩) (v := ?_) rfl (Or.inl ⟨by rfl, ?_⟩) ?_
   rotate_left
   ·intro w hSw
    (try dsimp only at hSw)
    first | (go_simp; done) | (go_simp; with_reducible rfl)
   (try simp only [Act.put, List.setIfInBounds_toArray, List.set_cons_zero, List.set_cons_succ])
   refine wpAnyH_done (by kernel_rfl) ?_ _
   go_wp2
   go_ret
   exact ⟨by rw [HD.out, HF.out]; rfl, rfl, rfl, rfl, Nat.le_refl _, fun _ _ => rfl⟩
  have hbl : Op.bytesLess z.item.toList x.item.toList = true := hls
  have HA := Lib.hid (HSo.out HOY.out)
  have HBb := Lib.hid (HSi.out (HIk.out.trans hls))
  clear hls
  have hS : (w.drewN m).drew.cell? ⟨b, off + k * 2, none⟩ = some (.string x.item) ∧ (w.drewN m).drew.cell? ⟨b, off + k * 2 + 1, none⟩ = some (.int .i64 x.cents) ∧ (w.drewN m).drew.cell? ⟨b, off + j * 2, none⟩ = some (.string z.item) := ⟨d0, d1, e0⟩
  go_wp2_with fail
  refine wp_region_held_drew (S := fun w' => w'.cell? ⟨b, off + k * 2, none⟩ = some (.string x.item) ∧ w'.cell? ⟨b, off + k * 2 + 1, none⟩ = some (.int .i64 x.cents) ∧ w'.cell? ⟨b, off + j * 2, none⟩ = some (.string z.item)) (by kernel_rfl) hS (fun hHeld => ?_)
  clear hHeld
  refine lk33 (i := 0) (oi := ⟨some 10, .move (.tmp 0), 25, "l12_prices.go:7", #[], none⟩) (v := ?_) rfl (Or.inl ⟨by rfl, ?_⟩) ?_
  rotate_left
  ·intro w hSw
   (try dsimp only at hSw)
   first | (go_simp; done) | (go_simp; with_reducible rfl)
  (try simp only [Act.put, List.setIfInBounds_toArray, List.set_cons_zero, List.set_cons_succ])
  refine lk33 (i := 1) (oi := ⟨some 11, .move (.tmp 3), 3, "l12_prices.go:7", #[], none⟩) (v := ?_) rfl (Or.inl ⟨by rfl, ?_⟩) ?_
  rotate_left
  ·intro w hSw
   (try dsimp only at hSw)
   first | (go_simp; done) | (go_simp; with_reducible rfl)
  (try simp only [Act.put, List.setIfInBounds_toArray, List.set_cons_zero, List.set_cons_succ])
  refine lk33 (i := 2) (oi := ⟨some 12, .indexAddr 25 (.tmp 10) (.tmp 11), 0, "l12_prices.go:7", #[⟨0, .data⟩, ⟨1, .data⟩], none⟩) (v := ?_) rfl (Or.inl ⟨by rfl, ?_⟩) ?_
  rotate_left
  ·intro w hSw
   (try dsimp only at hSw)
   first | (go_simp; done) | (go_simp; with_reducible rfl)
  (try simp only [Act.put, List.setIfInBounds_toArray, List.set_cons_zero, List.set_cons_succ])
  refine lk33 (i := 3) (oi := ⟨some 13, .fieldAddr 63 (.tmp 12) 0, 0, "l12_prices.go:7", #[⟨2, .data⟩], none⟩) (v := ?_) rfl (Or.inl ⟨by rfl, ?_⟩) ?_
  rotate_left
  ·intro w hSw
   (try dsimp only at hSw)
   first | (go_simp; done) | (go_simp; with_reducible rfl)
  (try simp only [Act.put, List.setIfInBounds_toArray, List.set_cons_zero, List.set_cons_succ])
  refine lk33 (i := 4) (oi := ⟨some 14, .load 9 (.tmp 13), 9, "l12_prices.go:7", #[⟨3, .data⟩], none⟩) (v := ?_) rfl (Or.inl ⟨by rfl, ?_⟩) ?_
  rotate_left
  ·intro w hSw
   (try dsimp only at hSw)
   first | (go_simp; done) | (go_simp; with_reducible rfl)
  (try simp only [Act.put, List.setIfInBounds_toArray, List.set_cons_zero, List.set_cons_succ])
  refine rk 5 rfl (fun K hK => ?_)
  go_simp
  go_at_call 33
  refine (l3Item x.item hio _).mono ?_
  rintro e w2 ⟨rfl, rfl⟩
  rw [Hit.out]
  refine hK.out _ _ hS (fun hHeld2 => ?_)
  clear hK K
  (try simp only [Act.put, List.setIfInBounds_toArray, List.set_cons_zero, List.set_cons_succ])
  refine lk33 (i := 6) (oi := ⟨some 16, .unOp .not 4 (.tmp 15), 4, "l12_prices.go:7", #[⟨5, .data⟩], none⟩) (v := ?_) rfl (Or.inl ⟨by rfl, ?_⟩) ?_
  rotate_left
  ·intro w hSw
   (try dsimp only at hSw)
   first | (go_simp; done) | (go_simp; with_reducible rfl)
  (try simp only [Act.put, List.setIfInBounds_toArray, List.set_cons_zero, List.set_cons_succ])
  refine lk33 (i := 7) (oi := ⟨some 17, .move (.tmp 16), 4, "l12_prices.go:7", #[⟨6, .data⟩, ⟨5, .chain⟩], none⟩) (v := ?_) rfl (Or.inl ⟨by rfl, ?_⟩) ?_
  rotate_left
  ·intro w hSw
   (try dsimp only at hSw)
   first | (go_simp; done) | (go_simp; with_reducible rfl)
  (try simp only [Act.put, List.setIfInBounds_toArray, List.set_cons_zero, List.set_cons_succ])
  refine lk33 (i := 8) (oi := ⟨some 18, .move (.tmp 0), 25, "l12_prices.go:7", #[⟨7, .guard⟩], some (7, false)⟩) (v := ?_) rfl (Or.inl ⟨by rfl, ?_⟩) ?_
  rotate_left
  ·intro w hSw
   (try dsimp only at hSw)
   first | (go_simp; done) | (go_simp; with_reducible rfl)
  (try simp only [Act.put, List.setIfInBounds_toArray, List.set_cons_zero, List.set_cons_succ])
  refine lk33 (i := 9) (oi := ⟨some 19, .move (.tmp 3), 3, "l12_prices.go:7", #[⟨7, .guard⟩], some (7, false)⟩) (v := ?_) rfl (Or.inl ⟨by rfl, ?_⟩) ?_
  rotate_left
  ·intro w hSw
   (try dsimp only at hSw)
   first | (go_simp; done) | (go_simp; with_reducible rfl)
  (try simp only [Act.put, List.setIfInBounds_toArray, List.set_cons_zero, List.set_cons_succ])
  refine lk33 (i := 10) (oi := ⟨some 20, .indexAddr 25 (.tmp 18) (.tmp 19), 0, "l12_prices.go:7", #[⟨8, .data⟩, ⟨9, .data⟩, ⟨7, .guard⟩], some (7, false)⟩) (v := ?_) rfl (Or.inl ⟨by rfl, ?_⟩) ?_
  rotate_left
  ·intro w hSw
   (try dsimp only at hSw)
   first | (go_simp; done) | (go_simp; with_reducible rfl)
  (try simp only [Act.put, List.setIfInBounds_toArray, List.set_cons_zero, List.set_cons_succ])
  refine lk33 (i := 11) (oi := ⟨some 21, .fieldAddr 63 (.tmp 20) 1, 0, "l12_prices.go:7", #[⟨10, .data⟩, ⟨7, .guard⟩], some (7, false)⟩) (v := ?_) rfl (Or.inl ⟨by rfl, ?_⟩) ?_
  rotate_left
  ·intro w hSw
   (try dsimp only at hSw)
   first | (go_simp; done) | (go_simp; with_reducible rfl)
  (try simp only [Act.put, List.setIfInBounds_toArray, List.set_cons_zero, List.set_cons_succ])
  refine lk33 (i := 12) (oi := ⟨some 22, .load 2 (.tmp 21), 2, "l12_prices.go:7", #[⟨11, .data⟩, ⟨7, .guard⟩], some (7, false)⟩) (v := ?_) rfl (Or.inl ⟨by rfl, ?_⟩) ?_
  rotate_left
  ·intro w hSw
   (try dsimp only at hSw)
   first | (go_simp; done) | (go_simp; with_reducible rfl)
  (try simp only [Act.put, List.setIfInBounds_toArray, List.set_cons_zero, List.set_cons_succ])
  refine rk 13 rfl (fun K hK => ?_)
  go_simp
  go_at_call 34
  refine (l1In x.cents 1 1000000 _).mono ?_
  rintro e w2 ⟨rfl, rfl⟩
  rw [Hrg.out]
  refine hK.out _ _ hS (fun hHeld3 => ?_)
  clear hK K
  (try simp only [Act.put, List.setIfInBounds_toArray, List.set_cons_zero, List.set_cons_succ])
  refine lk33 (i := 14) (oi := ⟨some 24, .unOp .not 4 (.tmp 23), 4, "l12_prices.go:7", #[⟨13, .data⟩, ⟨7, .guard⟩], some (7, false)⟩) (v := ?_) rfl (Or.inl ⟨by rfl, ?_⟩) ?_
  rotate_left
  ·intro w hSw
   (try dsimp only at hSw)
   first | (go_simp; done) | (go_simp; with_reducible rfl)
  (try simp only [Act.put, List.setIfInBounds_toArray, List.set_cons_zero, List.set_cons_succ])
  refine lk33 (i := 15) (oi := ⟨some 25, .pick (.tmp 17) (.const (Value.bool true)) (.tmp 24), 4, "l12_prices.go:7", #[⟨7, .data⟩, ⟨14, .data⟩], none⟩) (v := ?_) rfl (Or.inl ⟨by rfl, ?_⟩) ?_
  rotate_left
  ·intro w hSw
   (try dsimp only at hSw)
   first | (go_simp; done) | (go_simp; with_reducible rfl)
  (try simp only [Act.put, List.setIfInBounds_toArray, List.set_cons_zero, List.set_cons_succ])
  refine lk33 (i := 16) (oi := ⟨some 26, .move (.tmp 25), 4, "l12_prices.go:7", #[⟨15, .data⟩, ⟨13, .chain⟩], none⟩) (v := ?_) rfl (Or.inl ⟨by rfl, ?_⟩) ?_
  rotate_left
  ·intro w hSw
   (try dsimp only at hSw)
   first | (go_simp; done) | (go_simp; with_reducible rfl)
  (try simp only [Act.put, List.setIfInBounds_toArray, List.set_cons_zero, List.set_cons_succ])
  refine lk33 (i := 17) (oi := ⟨some 27, .move (.tmp 3), 3, "l12_prices.go:7", #[⟨16, .guard⟩], some (16, false)⟩) (v := ?_) rfl (Or.inl ⟨by rfl, ?_⟩) ?_
  rotate_left
  ·intro w hSw
   (try dsimp only at hSw)
   first | (go_simp; done) | (go_simp; with_reducible rfl)
  (try simp only [Act.put, List.setIfInBounds_toArray, List.set_cons_zero, List.set_cons_succ])
  refine lk33 (i := 18) (oi := ⟨some 28, .binOp .gtr 3 (.tmp 27) (.const (Value.int IntKind.i64 0)) 3, 4, "l12_prices.go:7", #[⟨17, .data⟩, ⟨16, .guard⟩], some (16, false)⟩) (v := ?_) rfl (Or.inl ⟨by rfl, ?_⟩) ?_
  rotate_left
  ·intro w hSw
   (try dsimp only at hSw)
   first | (go_simp; done) | (go_simp; with_reducible rfl)
  (try simp only [Act.put, List.setIfInBounds_toArray, List.set_cons_zero, List.set_cons_succ])
  refine lk33 (i := 19) (oi := ⟨some 29, .move (.tmp 28), 4, "l12_prices.go:7", #[⟨18, .data⟩, ⟨16, .chain⟩, ⟨16, .guard⟩], some (16, false)⟩) (v := ?_) rfl (Or.inl ⟨by rfl, ?_⟩) ?_
  rotate_left
  ·intro w hSw
   (try dsimp only at hSw)
   first | (go_simp; done) | (go_simp; with_reducible rfl)
  (try simp only [Act.put, List.setIfInBounds_toArray, List.set_cons_zero, List.set_cons_succ])
  refine lk33 (i := 20) (oi := ⟨some 30, .move (.tmp 0), 25, "l12_prices.go:7", #[⟨19, .guard⟩], some (19, true)⟩) (v := ?_) rfl (Or.inl ⟨by rfl, ?_⟩) ?_
  rotate_left
  ·intro w hSw
   (try dsimp only at hSw)
   first | (go_simp; done) | (go_simp; with_reducible rfl)
  (try simp only [Act.put, List.setIfInBounds_toArray, List.set_cons_zero, List.set_cons_succ])
  refine lk33 (i := 21) (oi := ⟨some 31, .move (.tmp 3), 3, "l12_prices.go:7", #[⟨19, .guard⟩], some (19, true)⟩) (v := ?_) rfl (Or.inl ⟨by rfl, ?_⟩) ?_
  rotate_left
  ·intro w hSw
   (try dsimp only at hSw)
   first | (go_simp; done) | (go_simp; with_reducible rfl)
  (try simp only [Act.put, List.setIfInBounds_toArray, List.set_cons_zero, List.set_cons_succ])
  refine lk33 (i := 22) (oi := ⟨some 32, .binOp .sub 3 (.tmp 31) (.const (Value.int IntKind.i64 1)) 3, 3, "l12_prices.go:7", #[⟨21, .data⟩, ⟨19, .guard⟩], some (19, true)⟩) (v := ?_) rfl (Or.inl ⟨by rfl, ?_⟩) ?_
  rotate_left
  ·intro w hSw
   (try dsimp only at hSw)
   first | (go_simp; done) | (go_simp; with_reducible rfl)
  (try simp only [Act.put, List.setIfInBounds_toArray, List.set_cons_zero, List.set_cons_succ])
  refine lk33 (i := 23) (oi := ⟨some 33, .indexAddr 25 (.tmp 30) (.tmp 32), 0, "l12_prices.go:7", #[⟨20, .data⟩, ⟨22, .data⟩, ⟨19, .guard⟩], some (19, true)⟩) (v := ?_) rfl (Or.inl ⟨by rfl, ?_⟩) ?_
  rotate_left
  ·intro w hSw
   (try dsimp only at hSw)
   first | (go_simp; done) | (go_simp; with_reducible rfl)
  (try simp only [Act.put, List.setIfInBounds_toArray, List.set_cons_zero, List.set_cons_succ])
  refine lk33 (i := 24) (oi := ⟨some 34, .fieldAddr 63 (.tmp 33) 0, 0, "l12_prices.go:7", #[⟨23, .data⟩, ⟨19, .guard⟩], some (19, true)⟩) (v := ?_) rfl (Or.inl ⟨by rfl, ?_⟩) ?_
  rotate_left
  ·intro w hSw
   (try dsimp only at hSw)
   first | (go_simp; done) | (go_simp; with_reducible rfl)
  (try simp only [Act.put, List.setIfInBounds_toArray, List.set_cons_zero, List.set_cons_succ])
  refine lk33 (i := 25) (oi := ⟨some 35, .load 9 (.tmp 34), 9, "l12_prices.go:7", #[⟨24, .data⟩, ⟨19, .guard⟩], some (19, true)⟩) (v := ?_) rfl (Or.inl ⟨by rfl, ?_⟩) ?_
  rotate_left
  ·intro w hSw
   (try dsimp only at hSw)
   first | (go_simp; done) | (go_simp; with_reducible rfl)
  (try simp only [Act.put, List.setIfInBounds_toArray, List.set_cons_zero, List.set_cons_succ])
  refine lk33 (i := 26) (oi := ⟨some 36, .move (.tmp 0), 25, "l12_prices.go:7", #[⟨19, .guard⟩], some (19, true)⟩) (v := ?_) rfl (Or.inl ⟨by rfl, ?_⟩) ?_
  rotate_left
  ·intro w hSw
   (try dsimp only at hSw)
   first | (go_simp; done) | (go_simp; with_reducible rfl)
  (try simp only [Act.put, List.setIfInBounds_toArray, List.set_cons_zero, List.set_cons_succ])
  refine lk33 (i := 27) (oi := ⟨some 37, .move (.tmp 3), 3, "l12_prices.go:7", #[⟨19, .guard⟩], some (19, true)⟩) (v := ?_) rfl (Or.inl ⟨by rfl, ?_⟩) ?_
  rotate_left
  ·intro w hSw
   (try dsimp only at hSw)
   first | (go_simp; done) | (go_simp; with_reducible rfl)
  (try simp only [Act.put, List.setIfInBounds_toArray, List.set_cons_zero, List.set_cons_succ])
  refine lk33 (i := 28) (oi := ⟨some 38, .indexAddr 25 (.tmp 36) (.tmp 37), 0, "l12_prices.go:7", #[⟨26, .data⟩, ⟨27, .data⟩, ⟨19, .guard⟩], some (19, true)⟩) (v := ?_) rfl (Or.inl ⟨by rfl, ?_⟩) ?_
  rotate_left
  ·intro w hSw
   (try dsimp only at hSw)
   first | (go_simp; done) | (go_simp; with_reducible rfl)
  (try simp only [Act.put, List.setIfInBounds_toArray, List.set_cons_zero, List.set_cons_succ])
  refine lk33 (i := 29) (oi := ⟨some 39, .fieldAddr 63 (.tmp 38) 0, 0, "l12_prices.go:7", #[⟨28, .data⟩, ⟨19, .guard⟩], some (19, true)⟩) (v := ?_) rfl (Or.inl ⟨by rfl, ?_⟩) ?_
  rotate_left
  ·intro w hSw
   (try dsimp only at hSw)
   first | (go_simp; done) | (go_simp; with_reducible rfl)
  (try simp only [Act.put, List.setIfInBounds_toArray, List.set_cons_zero, List.set_cons_succ])
  refine lk33 (i := 30) (oi := ⟨some 40, .load 9 (.tmp 39), 9, "l12_prices.go:7", #[⟨29, .data⟩, ⟨19, .guard⟩], some (19, true)⟩) (v := ?_) rfl (Or.inl ⟨by rfl, ?_⟩) ?_
  rotate_left
  ·intro w hSw
   (try dsimp only at hSw)
   first | (go_simp; done) | (go_simp; with_reducible rfl)
  (try simp only [Act.put, List.setIfInBounds_toArray, List.set_cons_zero, List.set_cons_succ])
  refine lk33 (i := 31) (oi := ⟨some 41, .binOp .geq 9 (.tmp 35) (.tmp 40) 9, 4, "l12_prices.go:7", #[⟨25, .data⟩, ⟨30, .data⟩, ⟨19, .guard⟩], some (19, true)⟩) (v := ?_) rfl (Or.inl ⟨by rfl, ?_⟩) ?_
  rotate_left
  ·intro w hSw
   (try dsimp only at hSw)
   first | (go_simp; done) | (go_simp; with_reducible rfl)
  (try simp only [Act.put, List.setIfInBounds_toArray, List.set_cons_zero, List.set_cons_succ])
  refine lk33 (i := 32) (oi := ⟨some 42, .pick (.tmp 29) (.tmp 41) (.const (Value.bool false)), 4, "l12_prices.go:7", #[⟨19, .data⟩, ⟨31, .data⟩, ⟨16, .guard⟩], some (16, false)⟩) (v := ?_) rfl (Or.inl ⟨by rfl, ?_⟩) ?_
  rotate_left
  ·intro w hSw
   (try dsimp only at hSw)
   first | (go_simp; done) | (go_simp; with_reducible rfl)
  (try simp only [Act.put, List.setIfInBounds_toArray, List.set_cons_zero, List.set_cons_succ])
  refine lk33 (i := 33) (oi := ⟨some 43, .pick (.tmp 26) (.const (Value.bool true)) (.tmp 42), 4, "l12_prices.go:7", #[⟨16, .data⟩, ⟨32, .data⟩], none⟩) (v := ?_) rfl (Or.inl ⟨by rfl, ?_⟩) ?_
  rotate_left
  ·intro w hSw
   (try dsimp only at hSw)
   first | (go_simp; done) | (go_simp; with_reducible rfl)
  (try simp only [Act.put, List.setIfInBounds_toArray, List.set_cons_zero, List.set_cons_succ])
  refine wpAnyH_done (by kernel_rfl) ?_ _
  go_wp2
  go_roundw
  case rel => exact ⟨k + 1, m + 1, by omega, by go_num, by rfl, HA, HBb⟩
  case measure => simp [intOf]; omega
set_option maxRecDepth 100000 in
set_option maxHeartbeats 20000000 in
theorem specOfsOk (w : World) (B : Nat) (a : Option Addr) (n c : Nat) (l : List OfV) (h : Ofs w B a n l) (hB : B ≤ w.heap.size) (hn : n ≤ 1048576) (hm : ∀ i, i < n → (atOf l i).item.size ≤ 1048576) :
  Calls Tryz.prog 25 #[.slice a n c] w fun e w' => e = .returned (.bool (OfsB l)) ∧ Below w.heap.size w w' := by
 have H := Lib.hid h
 have HM := Lib.hid hm
 have hl : l.length = n := h.1
 have HD : Hid (OfsB l = sortB n (Ofok l) (Ofinc l)) := by show OfsB l = _; unfold OfsB; rw [hl]
 clear h hm hl
 go_enter Tryz.func25, Tryz.ntmps25
 go_wp2
 go_loopw [3] (fun i wr => ∃ k : Nat, k ≤ n ∧ i = .int .i64 (k : Int) ∧ Hid (Below w.heap.size w wr) ∧ Hid (∀ i, i < k → Ofok l i = true) ∧ Hid (∀ i, i < k → Ofinc l i = true)) (fun i _ => n - (intOf i).toNat)
 case atStart => exact ⟨0, Nat.zero_le _, rfl, Below.refl _ _, fun i hi => absurd hi (by omega), fun i hi => absurd hi (by omega)⟩
 case round =>
  obtain ⟨k, hk, rfl, HBr, HO, HI⟩ := hrel
  by_cases hlt : k < n
  rotate_left
  ·obtain rfl : k = n := by omega
   have HF := Lib.hid (sort_lenB HO.out HI.out)
   go_wp2
   go_ret
   exact ⟨by rw [HD.out, HF.out]; exact ret_bool (by rw [Bool.eq_iff_iff]; simp; omega), HBr.out⟩
  have hki : (k : Int) < (n : Int) := by omega
  have hk0 : (0 : Int) ≤ (k : Int) := by omega
  obtain ⟨b, off, hao, hb, ho⟩ := H.out.2 k hlt
  have hio := HM.out k hlt
  have HNo := Lib.hid (fun hh => sort_ok (inc := Ofinc l) (all_range_no (p := Ofok l) (n := n) (i := k) hlt hh))
  have HNi := Lib.hid (fun hh => sort_inc (ok := Ofok l) (all_range_no (p := Ofinc l) (n := n) (i := k) hlt hh))
  have HSo := Lib.hid (fun hh => allp_stepS HO.out (k := k) hh)
  have HSi := Lib.hid (fun hh => allp_stepS HI.out (k := k) hh)
  have HOk : Hid (Ofok l k = (atOf l k).ok) := rfl
  have ho' : OfAt wr.drew b (off + k * 3) (atOf l k) := ho.kept (w' := wr.drew) (HBr.out.block b (by omega))
  clear ho HO HI
  by_cases hz : k = 0
  ·have hzi : decide (0 < k) = false := decide_eq_false (by omega)
   have HZ := Lib.hid hz
   clear hz
   subst hao
   generalize atOf l k = x at hio HOk ho'
   obtain ⟨d0, d1, d2⟩ := ho'
   rcases hit : offB x.item x.buy x.free with _ | _
   ·have Hit := Lib.hid hit
    have HB : Hid (x.ok = false) := hit
    clear hit
    have hS : wr.drew.cell? ⟨b, off + k * 3, none⟩ = some (.string x.item) ∧ wr.drew.cell? ⟨b, off + k * 3 + 1, none⟩ = some (.int .i64 x.buy) ∧ wr.drew.cell? ⟨b, off + k * 3 + 2, none⟩ = some (.int .i64 x.free) := ⟨d0, d1, d2⟩
    go_wp2_with fail
    refine wp_region_held_drew (S := fun w' => w'.cell? ⟨b, off + k * 3, none⟩ = some (.string x.item) ∧ w'.cell? ⟨b, off + k * 3 + 1, none⟩ = some (.int .i64 x.buy) ∧ w'.cell? ⟨b, off + k * 3 + 2, none⟩ = some (.int .i64 x.free)) (by kernel_rfl) hS (fun hHeld => ?_)
    clear hHeld
    refine lk33 (i := 0) (oi := ⟨some 10, .move (.tmp 0), 26, "l12_prices.go:20", #[], none⟩) (v := ?_) rfl (Or.inl ⟨by rfl, ?_⟩) ?_
    rotate_left
    ·intro w hSw
     (try dsimp only at hSw)
     first | (go_simp; done) | (go_simp; with_reducible rfl)
    (try simp only [Act.put, List.setIfInBounds_toArray, List.set_cons_zero, List.set_cons_succ])
    refine lk33 (i := 1) (oi := ⟨some 11, .move (.tmp 3), 3, "l12_prices.go:20", #[], none⟩) (v := ?_) rfl (Or.inl ⟨by rfl, ?_⟩) ?_
    rotate_left
    ·intro w hSw
     (try dsimp only at hSw)
     first | (go_simp; done) | (go_simp; with_reducible rfl)
    (try simp only [Act.put, List.setIfInBounds_toArray, List.set_cons_zero, List.set_cons_succ])
    refine lk33 (i := 2) (oi := ⟨some 12, .indexAddr 26 (.tmp 10) (.tmp 11), 0, "l12_prices.go:20", #[⟨0, .data⟩, ⟨1, .data⟩], none⟩) (v := ?_) rfl (Or.inl ⟨by rfl, ?_⟩) ?_
    rotate_left
    ·intro w hSw
     (try dsimp only at hSw)
     first | (go_simp; done) | (go_simp; with_reducible rfl)
    (try simp only [Act.put, List.setIfInBounds_toArray, List.set_cons_zero, List.set_cons_succ])
    refine lk33 (i := 3) (oi := ⟨some 13, .load 59 (.tmp 12), 59, "l12_prices.go:20", #[⟨2, .data⟩], none⟩) (v := ?_) rfl (Or.inl ⟨by rfl, ?_⟩) ?_
    rotate_left
    ·intro w hSw
     (try dsimp only at hSw)
     first | (go_simp; done) | (go_simp; with_reducible rfl)
    (try simp only [Act.put, List.setIfInBounds_toArray, List.set_cons_zero, List.set_cons_succ])
    refine rk 4 rfl (fun K hK => ?_)
    go_simp
    go_at_call 50
    refine (specOffer x.item x.buy x.free _ hio).mono ?_
    rintro e w2 ⟨rfl, hb2⟩
    rw [Hit.out]
    have hS2 := hS
    have hS3 : w2.cell? ⟨b, off + k * 3, none⟩ = some (.string x.item) ∧ w2.cell? ⟨b, off + k * 3 + 1, none⟩ = some (.int .i64 x.buy) ∧ w2.cell? ⟨b, off + k * 3 + 2, none⟩ = some (.int .i64 x.free) := ⟨(hb2.cell (block_lt_of_cell hS.1)).trans hS.1, (hb2.cell (block_lt_of_cell hS.2.1)).trans hS.2.1, (hb2.cell (block_lt_of_cell hS.2.2)).trans hS.2.2⟩
    refine hK.out _ _ hS3 (fun hHeld2 => ?_)
    clear hK K
    (try simp only [Act.put, List.setIfInBounds_toArray, List.set_cons_zero, List.set_cons_succ])
    refine lk33 (i := 5) (oi := ⟨some 15, .unOp .not 4 (.tmp 14), 4, "l12_prices.go:20", #[⟨4, .data⟩], none⟩) (v := ?_) rfl (Or.inl ⟨by rfl, ?_⟩) ?_
    rotate_left
    ·intro w hSw
     (try dsimp only at hSw)
     first | (go_simp; done) | (go_simp; with_reducible rfl)
    (try simp only [Act.put, List.setIfInBounds_toArray, List.set_cons_zero, List.set_cons_succ])
    refine lk33 (i := 6) (oi := ⟨some 16, .move (.tmp 15), 4, "l12_prices.go:20", #[⟨5, .data⟩, ⟨4, .chain⟩], none⟩) (v := ?_) rfl (Or.inl ⟨by rfl, ?_⟩) ?_
    rotate_left
    ·intro w hSw
     (try dsimp only at hSw)
     first | (go_simp; done) | (go_simp; with_reducible rfl)
    (try simp only [Act.put, List.setIfInBounds_toArray, List.set_cons_zero, List.set_cons_succ])
    refine lk33 (i := 7) (oi := ⟨some 17, .move (.tmp 3), 3, "l12_prices.go:20", #[⟨6, .guard⟩], some (6, false)⟩) (v := undef) rfl (Or.inr ⟨by rfl, rfl⟩) ?_
    (try simp only [Act.put, List.setIfInBounds_toArray, List.set_cons_zero, List.set_cons_succ])
    refine lk33 (i := 8) (oi := ⟨some 18, .binOp .gtr 3 (.tmp 17) (.const (Value.int IntKind.i64 0)) 3, 4, "l12_prices.go:20", #[⟨7, .data⟩, ⟨6, .guard⟩], some (6, false)⟩) (v := undef) rfl (Or.inr ⟨by rfl, rfl⟩) ?_
    (try simp only [Act.put, List.setIfInBounds_toArray, List.set_cons_zero, List.set_cons_succ])
    refine lk33 (i := 9) (oi := ⟨some 19, .move (.tmp 18), 4, "l12_prices.go:20", #[⟨8, .data⟩, ⟨6, .chain⟩, ⟨6, .guard⟩], some (6, false)⟩) (v := undef) rfl (Or.inr ⟨by rfl, rfl⟩) ?_
    (try simp only [Act.put, List.setIfInBounds_toArray, List.set_cons_zero, List.set_cons_succ])
    refine lk33 (i := 10) (oi := ⟨some 20, .move (.tmp 0), 26, "l12_prices.go:20", #[⟨9, .guard⟩], some (9, true)⟩) (v := undef) rfl (Or.inr ⟨by rfl, rfl⟩) ?_
    (try simp only [Act.put, List.setIfInBounds_toArray, List.set_cons_zero, List.set_cons_succ])
    refine lk33 (i := 11) (oi := ⟨some 21, .move (.tmp 3), 3, "l12_prices.go:20", #[⟨9, .guard⟩], some (9, true)⟩) (v := undef) rfl (Or.inr ⟨by rfl, rfl⟩) ?_
    (try simp only [Act.put, List.setIfInBounds_toArray, List.set_cons_zero, List.set_cons_succ])
    refine lk33 (i := 12) (oi := ⟨some 22, .binOp .sub 3 (.tmp 21) (.const (Value.int IntKind.i64 1)) 3, 3, "l12_prices.go:20", #[⟨11, .data⟩, ⟨9, .guard⟩], some (9, true)⟩) (v := undef) rfl (Or.inr ⟨by rfl, rfl⟩) ?_
    (try simp only [Act.put, List.setIfInBounds_toArray, List.set_cons_zero, List.set_cons_succ])
    refine lk33 (i := 13) (oi := ⟨some 23, .indexAddr 26 (.tmp 20) (.tmp 22), 0, "l12_prices.go:20", #[⟨10, .data⟩, ⟨12, .data⟩, ⟨9, .guard⟩], some (9, true)⟩) (v := undef) rfl (Or.inr ⟨by rfl, rfl⟩) ?_
    (try simp only [Act.put, List.setIfInBounds_toArray, List.set_cons_zero, List.set_cons_succ])
    refine lk33 (i := 14) (oi := ⟨some 24, .fieldAddr 59 (.tmp 23) 0, 0, "l12_prices.go:20", #[⟨13, .data⟩, ⟨9, .guard⟩], some (9, true)⟩) (v := undef) rfl (Or.inr ⟨by rfl, rfl⟩) ?_
    (try simp only [Act.put, List.setIfInBounds_toArray, List.set_cons_zero, List.set_cons_succ])
    refine lk33 (i := 15) (oi := ⟨some 25, .load 9 (.tmp 24), 9, "l12_prices.go:20", #[⟨14, .data⟩, ⟨9, .guard⟩], some (9, true)⟩) (v := undef) rfl (Or.inr ⟨by rfl, rfl⟩) ?_
    (try simp only [Act.put, List.setIfInBounds_toArray, List.set_cons_zero, List.set_cons_succ])
    refine lk33 (i := 16) (oi := ⟨some 26, .move (.tmp 0), 26, "l12_prices.go:20", #[⟨9, .guard⟩], some (9, true)⟩) (v := undef) rfl (Or.inr ⟨by rfl, rfl⟩) ?_
    (try simp only [Act.put, List.setIfInBounds_toArray, List.set_cons_zero, List.set_cons_succ])
    refine lk33 (i := 17) (oi := ⟨some 27, .move (.tmp 3), 3, "l12_prices.go:20", #[⟨9, .guard⟩], some (9, true)⟩) (v := undef) rfl (Or.inr ⟨by rfl, rfl⟩) ?_
    (try simp only [Act.put, List.setIfInBounds_toArray, List.set_cons_zero, List.set_cons_succ])
    refine lk33 (i := 18) (oi := ⟨some 28, .indexAddr 26 (.tmp 26) (.tmp 27), 0, "l12_prices.go:20", #[⟨16, .data⟩, ⟨17, .data⟩, ⟨9, .guard⟩], some (9, true)⟩) (v := undef) rfl (Or.inr ⟨by rfl, rfl⟩) ?_
    (try simp only [Act.put, List.setIfInBounds_toArray, List.set_cons_zero, List.set_cons_succ])
    refine lk33 (i := 19) (oi := ⟨some 29, .fieldAddr 59 (.tmp 28) 0, 0, "l12_prices.go:20", #[⟨18, .data⟩, ⟨9, .guard⟩], some (9, true)⟩) (v := undef) rfl (Or.inr ⟨by rfl, rfl⟩) ?_
    (try simp only [Act.put, List.setIfInBounds_toArray, List.set_cons_zero, List.set_cons_succ])
    refine lk33 (i := 20) (oi := ⟨some 30, .load 9 (.tmp 29), 9, "l12_prices.go:20", #[⟨19, .data⟩, ⟨9, .guard⟩], some (9, true)⟩) (v := undef) rfl (Or.inr ⟨by rfl, rfl⟩) ?_
    (try simp only [Act.put, List.setIfInBounds_toArray, List.set_cons_zero, List.set_cons_succ])
    refine lk33 (i := 21) (oi := ⟨some 31, .binOp .geq 9 (.tmp 25) (.tmp 30) 9, 4, "l12_prices.go:20", #[⟨15, .data⟩, ⟨20, .data⟩, ⟨9, .guard⟩], some (9, true)⟩) (v := undef) rfl (Or.inr ⟨by rfl, rfl⟩) ?_
    (try simp only [Act.put, List.setIfInBounds_toArray, List.set_cons_zero, List.set_cons_succ])
    refine lk33 (i := 22) (oi := ⟨some 32, .pick (.tmp 19) (.tmp 31) (.const (Value.bool false)), 4, "l12_prices.go:20", #[⟨9, .data⟩, ⟨21, .data⟩, ⟨6, .guard⟩], some (6, false)⟩) (v := undef) rfl (Or.inr ⟨by rfl, rfl⟩) ?_
    (try simp only [Act.put, List.setIfInBounds_toArray, List.set_cons_zero, List.set_cons_succ])
    refine lk33 (i := 23) (oi := ⟨some 33, .pick (.tmp 16) (.const (Value.bool true)) (.tmp 32), 4, "l12_prices.go:20", #[⟨6, .data⟩, ⟨22, .data⟩], none⟩) (v := ?_) rfl (Or.inl ⟨by rfl, ?_⟩) ?_
    rotate_left
    ·intro w hSw
     (try dsimp only at hSw)
     first | (go_simp; done) | (go_simp; with_reducible rfl)
    (try simp only [Act.put, List.setIfInBounds_toArray, List.set_cons_zero, List.set_cons_succ])
    refine wpAnyH_done (by kernel_rfl) ?_ _
    have HF := Lib.hid (HNo.out (HOk.out.trans HB.out))
    have HBw := Lib.hid (HBr.out.trans ((Below.mk hb2.os hb2.tape hb2.output hb2.size hb2.block : Below wr.heap.size wr w2).mono HBr.out.size))
    go_wp2
    go_ret
    exact ⟨by rw [HD.out, HF.out]; rfl, HBw.out⟩
   have Hit := Lib.hid hit
   have HOy : Ofok l k = true := HOk.out.trans hit
   have HOY := Lib.hid HOy
   clear hit HOy
   have hS : wr.drew.cell? ⟨b, off + k * 3, none⟩ = some (.string x.item) ∧ wr.drew.cell? ⟨b, off + k * 3 + 1, none⟩ = some (.int .i64 x.buy) ∧ wr.drew.cell? ⟨b, off + k * 3 + 2, none⟩ = some (.int .i64 x.free) := ⟨d0, d1, d2⟩
   go_wp2_with fail
   refine wp_region_held_drew (S := fun w' => w'.cell? ⟨b, off + k * 3, none⟩ = some (.string x.item) ∧ w'.cell? ⟨b, off + k * 3 + 1, none⟩ = some (.int .i64 x.buy) ∧ w'.cell? ⟨b, off + k * 3 + 2, none⟩ = some (.int .i64 x.free)) (by kernel_rfl) hS (fun hHeld => ?_)
   clear hHeld
   refine lk33 (i := 0) (oi := ⟨some 10, .move (.tmp 0), 26, "l12_prices.go:20", #[], none⟩) (v := ?_) rfl (Or.inl ⟨by rfl, ?_⟩) ?_
   rotate_left
   ·intro w hSw
    (try dsimp only at hSw)
    first | (go_simp; done) | (go_simp; with_reducible rfl)
   (try simp only [Act.put, List.setIfInBounds_toArray, List.set_cons_zero, List.set_cons_succ])
   refine lk33 (i := 1) (oi := ⟨some 11, .move (.tmp 3), 3, "l12_prices.go:20", #[], none⟩) (v := ?_) rfl (Or.inl ⟨by rfl, ?_⟩) ?_
   rotate_left
   ·intro w hSw
    (try dsimp only at hSw)
    first | (go_simp; done) | (go_simp; with_reducible rfl)
   (try simp only [Act.put, List.setIfInBounds_toArray, List.set_cons_zero, List.set_cons_succ])
   refine lk33 (i := 2) (oi := ⟨some 12, .indexAddr 26 (.tmp 10) (.tmp 11), 0, "l12_prices.go:20", #[⟨0, .data⟩, ⟨1, .data⟩], none⟩) (v := ?_) rfl (Or.inl ⟨by rfl, ?_⟩) ?_
   rotate_left
   ·intro w hSw
    (try dsimp only at hSw)
    first | (go_simp; done) | (go_simp; with_reducible rfl)
   (try simp only [Act.put, List.setIfInBounds_toArray, List.set_cons_zero, List.set_cons_succ])
   refine lk33 (i := 3) (oi := ⟨some 13, .load 59 (.tmp 12), 59, "l12_prices.go:20", #[⟨2, .data⟩], none⟩) (v := ?_) rfl (Or.inl ⟨by rfl, ?_⟩) ?_
   rotate_left
   ·intro w hSw
    (try dsimp only at hSw)
    first | (go_simp; done) | (go_simp; with_reducible rfl)
   (try simp only [Act.put, List.setIfInBounds_toArray, List.set_cons_zero, List.set_cons_succ])
   refine rk 4 rfl (fun K hK => ?_)
   go_simp
   go_at_call 50
   refine (specOffer x.item x.buy x.free _ hio).mono ?_
   rintro e w2 ⟨rfl, hb2⟩
   rw [Hit.out]
   have hS2 := hS
   have hS3 : w2.cell? ⟨b, off + k * 3, none⟩ = some (.string x.item) ∧ w2.cell? ⟨b, off + k * 3 + 1, none⟩ = some (.int .i64 x.buy) ∧ w2.cell? ⟨b, off + k * 3 + 2, none⟩ = some (.int .i64 x.free) := ⟨(hb2.cell (block_lt_of_cell hS.1)).trans hS.1, (hb2.cell (block_lt_of_cell hS.2.1)).trans hS.2.1, (hb2.cell (block_lt_of_cell hS.2.2)).trans hS.2.2⟩
   refine hK.out _ _ hS3 (fun hHeld2 => ?_)
   clear hK K
   (try simp only [Act.put, List.setIfInBounds_toArray, List.set_cons_zero, List.set_cons_succ])
   refine lk33 (i := 5) (oi := ⟨some 15, .unOp .not 4 (.tmp 14), 4, "l12_prices.go:20", #[⟨4, .data⟩], none⟩) (v := ?_) rfl (Or.inl ⟨by rfl, ?_⟩) ?_
   rotate_left
   ·intro w hSw
    (try dsimp only at hSw)
    first | (go_simp; done) | (go_simp; with_reducible rfl)
   (try simp only [Act.put, List.setIfInBounds_toArray, List.set_cons_zero, List.set_cons_succ])
   refine lk33 (i := 6) (oi := ⟨some 16, .move (.tmp 15), 4, "l12_prices.go:20", #[⟨5, .data⟩, ⟨4, .chain⟩], none⟩) (v := ?_) rfl (Or.inl ⟨by rfl, ?_⟩) ?_
   rotate_left
   ·intro w hSw
    (try dsimp only at hSw)
    first | (go_simp; done) | (go_simp; with_reducible rfl)
   (try simp only [Act.put, List.setIfInBounds_toArray, List.set_cons_zero, List.set_cons_succ])
   refine lk33 (i := 7) (oi := ⟨some 17, .move (.tmp 3), 3, "l12_prices.go:20", #[⟨6, .guard⟩], some (6, false)⟩) (v := ?_) rfl (Or.inl ⟨by rfl, ?_⟩) ?_
   rotate_left
   ·intro w hSw
    (try dsimp only at hSw)
    first | (go_simp; done) | (go_simp; with_reducible rfl)
   (try simp only [Act.put, List.setIfInBounds_toArray, List.set_cons_zero, List.set_cons_succ])
   refine lk33 (i := 8) (oi := ⟨some 18, .binOp .gtr 3 (.tmp 17) (.const (Value.int IntKind.i64 0)) 3, 4, "l12_prices.go:20", #[⟨7, .data⟩, ⟨6, .guard⟩], some (6, false)⟩) (v := ?_) rfl (Or.inl ⟨by rfl, ?_⟩) ?_
   rotate_left
   ·intro w hSw
    (try dsimp only at hSw)
    first | (go_simp; done) | (go_simp; with_reducible rfl)
   (try simp only [Act.put, List.setIfInBounds_toArray, List.set_cons_zero, List.set_cons_succ])
   refine lk33 (i := 9) (oi := ⟨some 19, .move (.tmp 18), 4, "l12_prices.go:20", #[⟨8, .data⟩, ⟨6, .chain⟩, ⟨6, .guard⟩], some (6, false)⟩) (v := ?_) rfl (Or.inl ⟨by rfl, ?_⟩) ?_
   rotate_left
   ·intro w hSw
    (try dsimp only at hSw)
    first | (go_simp; done) | (go_simp; with_reducible rfl)
   (try simp only [Act.put, List.setIfInBounds_toArray, List.set_cons_zero, List.set_cons_succ])
   refine lk33 (i := 10) (oi := ⟨some 20, .move (.tmp 0), 26, "l12_prices.go:20", #[⟨9, .guard⟩], some (9, true)⟩) (v := undef) rfl (Or.inr ⟨by rfl, rfl⟩) ?_
   (try simp only [Act.put, List.setIfInBounds_toArray, List.set_cons_zero, List.set_cons_succ])
   refine lk33 (i := 11) (oi := ⟨some 21, .move (.tmp 3), 3, "l12_prices.go:20", #[⟨9, .guard⟩], some (9, true)⟩) (v := undef) rfl (Or.inr ⟨by rfl, rfl⟩) ?_
   (try simp only [Act.put, List.setIfInBounds_toArray, List.set_cons_zero, List.set_cons_succ])
   refine lk33 (i := 12) (oi := ⟨some 22, .binOp .sub 3 (.tmp 21) (.const (Value.int IntKind.i64 1)) 3, 3, "l12_prices.go:20", #[⟨11, .data⟩, ⟨9, .guard⟩], some (9, true)⟩) (v := undef) rfl (Or.inr ⟨by rfl, rfl⟩) ?_
   (try simp only [Act.put, List.setIfInBounds_toArray, List.set_cons_zero, List.set_cons_succ])
   refine lk33 (i := 13) (oi := ⟨some 23, .indexAddr 26 (.tmp 20) (.tmp 22), 0, "l12_prices.go:20", #[⟨10, .data⟩, ⟨12, .data⟩, ⟨9, .guard⟩], some (9, true)⟩) (v := undef) rfl (Or.inr ⟨by rfl, rfl⟩) ?_
   (try simp only [Act.put, List.setIfInBounds_toArray, List.set_cons_zero, List.set_cons_succ])
   refine lk33 (i := 14) (oi := ⟨some 24, .fieldAddr 59 (.tmp 23) 0, 0, "l12_prices.go:20", #[⟨13, .data⟩, ⟨9, .guard⟩], some (9, true)⟩) (v := undef) rfl (Or.inr ⟨by rfl, rfl⟩) ?_
   (try simp only [Act.put, List.setIfInBounds_toArray, List.set_cons_zero, List.set_cons_succ])
   refine lk33 (i := 15) (oi := ⟨some 25, .load 9 (.tmp 24), 9, "l12_prices.go:20", #[⟨14, .data⟩, ⟨9, .guard⟩], some (9, true)⟩) (v := undef) rfl (Or.inr ⟨by rfl, rfl⟩) ?_
   (try simp only [Act.put, List.setIfInBounds_toArray, List.set_cons_zero, List.set_cons_succ])
   refine lk33 (i := 16) (oi := ⟨some 26, .move (.tmp 0), 26, "l12_prices.go:20", #[⟨9, .guard⟩], some (9, true)⟩) (v := undef) rfl (Or.inr ⟨by rfl, rfl⟩) ?_
   (try simp only [Act.put, List.setIfInBounds_toArray, List.set_cons_zero, List.set_cons_succ])
   refine lk33 (i := 17) (oi := ⟨some 27, .move (.tmp 3), 3, "l12_prices.go:20", #[⟨9, .guard⟩], some (9, true)⟩) (v := undef) rfl (Or.inr ⟨by rfl, rfl⟩) ?_
   (try simp only [Act.put, List.setIfInBounds_toArray, List.set_cons_zero, List.set_cons_succ])
   refine lk33 (i := 18) (oi := ⟨some 28, .indexAddr 26 (.tmp 26) (.tmp 27), 0, "l12_prices.go:20", #[⟨16, .data⟩, ⟨17, .data⟩, ⟨9, .guard⟩], some (9, true)⟩) (v := undef) rfl (Or.inr ⟨by rfl, rfl⟩) ?_
   (try simp only [Act.put, List.setIfInBounds_toArray, List.set_cons_zero, List.set_cons_succ])
   refine lk33 (i := 19) (oi := ⟨some 29, .fieldAddr 59 (.tmp 28) 0, 0, "l12_prices.go:20", #[⟨18, .data⟩, ⟨9, .guard⟩], some (9, true)⟩) (v := undef) rfl (Or.inr ⟨by rfl, rfl⟩) ?_
   (try simp only [Act.put, List.setIfInBounds_toArray, List.set_cons_zero, List.set_cons_succ])
   refine lk33 (i := 20) (oi := ⟨some 30, .load 9 (.tmp 29), 9, "l12_prices.go:20", #[⟨19, .data⟩, ⟨9, .guard⟩], some (9, true)⟩) (v := undef) rfl (Or.inr ⟨by rfl, rfl⟩) ?_
   (try simp only [Act.put, List.setIfInBounds_toArray, List.set_cons_zero, List.set_cons_succ])
   refine lk33 (i := 21) (oi := ⟨some 31, .binOp .geq 9 (.tmp 25) (.tmp 30) 9, 4, "l12_prices.go:20", #[⟨15, .data⟩, ⟨20, .data⟩, ⟨9, .guard⟩], some (9, true)⟩) (v := undef) rfl (Or.inr ⟨by rfl, rfl⟩) ?_
   (try simp only [Act.put, List.setIfInBounds_toArray, List.set_cons_zero, List.set_cons_succ])
   refine lk33 (i := 22) (oi := ⟨some 32, .pick (.tmp 19) (.tmp 31) (.const (Value.bool false)), 4, "l12_prices.go:20", #[⟨9, .data⟩, ⟨21, .data⟩, ⟨6, .guard⟩], some (6, false)⟩) (v := ?_) rfl (Or.inl ⟨by rfl, ?_⟩) ?_
   rotate_left
   ·intro w hSw
    (try dsimp only at hSw)
    first | (go_simp; done) | (go_simp; with_reducible rfl)
   (try simp only [Act.put, List.setIfInBounds_toArray, List.set_cons_zero, List.set_cons_succ])
   refine lk33 (i := 23) (oi := ⟨some 33, .pick (.tmp 16) (.const (Value.bool true)) (.tmp 32), 4, "l12_prices.go:20", #[⟨6, .data⟩, ⟨22, .data⟩], none⟩) (v := ?_) rfl (Or.inl ⟨by rfl, ?_⟩) ?_
   rotate_left
   ·intro w hSw
    (try dsimp only at hSw)
    first | (go_simp; done) | (go_simp; with_reducible rfl)
   (try simp only [Act.put, List.setIfInBounds_toArray, List.set_cons_zero, List.set_cons_succ])
   refine wpAnyH_done (by kernel_rfl) ?_ _
   have HIy : Ofinc l k = true := by show (decide (k = 0) || _) = true; rw [decide_eq_true HZ.out]; rfl
   have HOy := HOY.out
   have HIY := Lib.hid HIy
   clear HIy HOy
   have HA := Lib.hid (HSo.out HOY.out)
   have HBb := Lib.hid (HSi.out HIY.out)
   have HBw := Lib.hid (HBr.out.trans ((Below.mk hb2.os hb2.tape hb2.output hb2.size hb2.block : Below wr.heap.size wr w2).mono HBr.out.size))
   clear hb2 hS hS2 hS3
   go_wp2
   go_roundw
   case rel => exact ⟨k + 1, by omega, by go_num, HBw, HA, HBb⟩
   case measure => simp [intOf]; omega
  have hzi : decide (0 < k) = true := decide_eq_true (by omega)
  obtain ⟨j, hj⟩ : ∃ j, k = j + 1 := ⟨k - 1, by omega⟩
  obtain ⟨b', off', hao', _, hop⟩ := H.out.2 j (by omega)
  have e := hao.symm.trans hao'
  injection e with e
  injection e with e1 e2
  subst e1 e2 hao
  have hop' : OfAt wr.drew b (off + j * 3) (atOf l j) := hop.kept (w' := wr.drew) (HBr.out.block b (by omega))
  clear hop hao'
  have HIk : Hid (Ofinc l k = ltS (atOf l j).item (atOf l k).item) := by subst hj; rfl
  have im : IntKind.i64.wrap ((k : Int) - 1) = (j : Int) := (IntWalk.i64_in _ (by omega)).trans (by omega)
  have i1 : (j : Int) < (n : Int) := by omega
  have i0 : (0 : Int) ≤ (j : Int) := by omega
  generalize atOf l k = x at hio HOk HIk ho'
  generalize atOf l j = z at HIk hop'
  obtain ⟨d0, d1, d2⟩ := ho'
  obtain ⟨e0, _⟩ := hop'
  clear hj
  rcases hit : offB x.item x.buy x.free with _ | _
  ·have Hit := Lib.hid hit
   have HB : Hid (x.ok = false) := hit
   clear hit
   have hS : wr.drew.cell? ⟨b, off + k * 3, none⟩ = some (.string x.item) ∧ wr.drew.cell? ⟨b, off + k * 3 + 1, none⟩ = some (.int .i64 x.buy) ∧ wr.drew.cell? ⟨b, off + k * 3 + 2, none⟩ = some (.int .i64 x.free) ∧ wr.drew.cell? ⟨b, off + j * 3, none⟩ = some (.string z.item) := ⟨d0, d1, d2, e0⟩
   go_wp2_with fail
   refine wp_region_held_drew (S := fun w' => w'.cell? ⟨b, off + k * 3, none⟩ = some (.string x.item) ∧ w'.cell? ⟨b, off + k * 3 + 1, none⟩ = some (.int .i64 x.buy) ∧ w'.cell? ⟨b, off + k * 3 + 2, none⟩ = some (.int .i64 x.free) ∧ w'.cell? ⟨b, off + j * 3, none⟩ = some (.string z.item)) (by kernel_rfl) hS (fun hHeld => ?_)
   clear hHeld
   refine lk33 (i := 0) (oi := ⟨some 10, .move (.tmp 0), 26, "l12_prices.go:20", #[], none⟩) (v := ?_) rfl (Or.inl ⟨by rfl, ?_⟩) ?_
   rotate_left
   ·intro w hSw
    (try dsimp only at hSw)
    first | (go_simp; done) | (go_simp; with_reducible rfl)
   (try simp only [Act.put, List.setIfInBounds_toArray, List.set_cons_zero, List.set_cons_succ])
   refine lk33 (i := 1) (oi := ⟨some 11, .move (.tmp 3), 3, "l12_prices.go:20", #[], none⟩) (v := ?_) rfl (Or.inl ⟨by rfl, ?_⟩) ?_
   rotate_left
   ·intro w hSw
    (try dsimp only at hSw)
    first | (go_simp; done) | (go_simp; with_reducible rfl)
   (try simp only [Act.put, List.setIfInBounds_toArray, List.set_cons_zero, List.set_cons_succ])
   refine lk33 (i := 2) (oi := ⟨some 12, .indexAddr 26 (.tmp 10) (.tmp 11), 0, "l12_prices.go:20", #[⟨0, .data⟩, ⟨1, .data⟩], none⟩) (v := ?_) rfl (Or.inl ⟨by rfl, ?_⟩) ?_
   rotate_left
   ·intro w hSw
    (try dsimp only at hSw)
    first | (go_simp; done) | (go_simp; with_reducible rfl)
   (try simp only [Act.put, List.setIfInBounds_toArray, List.set_cons_zero, List.set_cons_succ])
   refine lk33 (i := 3) (oi := ⟨some 13, .load 59 (.tmp 12), 59, "l12_prices.go:20", #[⟨2, .data⟩], none⟩) (v := ?_) rfl (Or.inl ⟨by rfl, ?_⟩) ?_
   rotate_left
   ·intro w hSw
    (try dsimp only at hSw)
    first | (go_simp; done) | (go_simp; with_reducible rfl)
   (try simp only [Act.put, List.setIfInBounds_toArray, List.set_cons_zero, List.set_cons_succ])
   refine rk 4 rfl (fun K hK => ?_)
   go_simp
   go_at_call 50
   refine (specOffer x.item x.buy x.free _ hio).mono ?_
   rintro e w2 ⟨rfl, hb2⟩
   rw [Hit.out]
   have hS2 := hS
   have hS3 : w2.cell? ⟨b, off + k * 3, none⟩ = some (.string x.item) ∧ w2.cell? ⟨b, off + k * 3 + 1, none⟩ = some (.int .i64 x.buy) ∧ w2.cell? ⟨b, off + k * 3 + 2, none⟩ = some (.int .i64 x.free) ∧ w2.cell? ⟨b, off + j * 3, none⟩ = some (.string z.item) := ⟨(hb2.cell (block_lt_of_cell hS.1)).trans hS.1, (hb2.cell (block_lt_of_cell hS.2.1)).trans hS.2.1, (hb2.cell (block_lt_of_cell hS.2.2.1)).trans hS.2.2.1, (hb2.cell (block_lt_of_cell hS.2.2.2)).trans hS.2.2.2⟩
   refine hK.out _ _ hS3 (fun hHeld2 => ?_)
   clear hK K
   (try simp only [Act.put, List.setIfInBounds_toArray, List.set_cons_zero, List.set_cons_succ])
   refine lk33 (i := 5) (oi := ⟨some 15, .unOp .not 4 (.tmp 14), 4, "l12_prices.go:20", #[⟨4, .data⟩], none⟩) (v := ?_) rfl (Or.inl ⟨by rfl, ?_⟩) ?_
   rotate_left
   ·intro w hSw
    (try dsimp only at hSw)
    first | (go_simp; done) | (go_simp; with_reducible rfl)
   (try simp only [Act.put, List.setIfInBounds_toArray, List.set_cons_zero, List.set_cons_succ])
   refine lk33 (i := 6) (oi := ⟨some 16, .move (.tmp 15), 4, "l12_prices.go:20", #[⟨5, .data⟩, ⟨4, .chain⟩], none⟩) (v := ?_) rfl (Or.inl ⟨by rfl, ?_⟩) ?_
   rotate_left
   ·intro w hSw
    (try dsimp only at hSw)
    first | (go_simp; done) | (go_simp; with_reducible rfl)
   (try simp only [Act.put, List.setIfInBounds_toArray, List.set_cons_zero, List.set_cons_succ])
   refine lk33 (i := 7) (oi := ⟨some 17, .move (.tmp 3), 3, "l12_prices.go:20", #[⟨6, .guard⟩], some (6, false)⟩) (v := undef) rfl (Or.inr ⟨by rfl, rfl⟩) ?_
   (try simp only [Act.put, List.setIfInBounds_toArray, List.set_cons_zero, List.set_cons_succ])
   refine lk33 (i := 8) (oi := ⟨some 18, .binOp .gtr 3 (.tmp 17) (.const (Value.int IntKind.i64 0)) 3, 4, "l12_prices.go:20", #[⟨7, .data⟩, ⟨6, .guard⟩], some (6, false)⟩) (v := undef) rfl (Or.inr ⟨by rfl, rfl⟩) ?_
   (try simp only [Act.put, List.setIfInBounds_toArray, List.set_cons_zero, List.set_cons_succ])
   refine lk33 (i := 9) (oi := ⟨some 19, .move (.tmp 18), 4, "l12_prices.go:20", #[⟨8, .data⟩, ⟨6, .chain⟩, ⟨6, .guard⟩], some (6, false)⟩) (v := undef) rfl (Or.inr ⟨by rfl, rfl⟩) ?_
   (try simp only [Act.put, List.setIfInBounds_toArray, List.set_cons_zero, List.set_cons_succ])
   refine lk33 (i := 10) (oi := ⟨some 20, .move (.tmp 0), 26, "l12_prices.go:20", #[⟨9, .guard⟩], some (9, true)⟩) (v := undef) rfl (Or.inr ⟨by rfl, rfl⟩) ?_
   (try simp only [Act.put, List.setIfInBounds_toArray, List.set_cons_zero, List.set_cons_succ])
   refine lk33 (i := 11) (oi := ⟨some 21, .move (.tmp 3), 3, "l12_prices.go:20", #[⟨9, .guard⟩], some (9, true)⟩) (v := undef) rfl (Or.inr ⟨by rfl, rfl⟩) ?_
   (try simp only [Act.put, List.setIfInBounds_toArray, List.set_cons_zero, List.set_cons_succ])
   refine lk33 (i := 12) (oi := ⟨some 22, .binOp .sub 3 (.tmp 21) (.const (Value.int IntKind.i64 1)) 3, 3, "l12_prices.go:20", #[⟨11, .data⟩, ⟨9, .guard⟩], some (9, true)⟩) (v := undef) rfl (Or.inr ⟨by rfl, rfl⟩) ?_
   (try simp only [Act.put, List.setIfInBounds_toArray, List.set_cons_zero, List.set_cons_succ])
   refine lk33 (i := 13) (oi := ⟨some 23, .indexAddr 26 (.tmp 20) (.tmp 22), 0, "l12_prices.go:20", #[⟨10, .data⟩, ⟨12, .data⟩, ⟨9, .guard⟩], some (9, true)⟩) (v := undef) rfl (Or.inr ⟨by rfl, rfl⟩) ?_
   (try simp only [Act.put, List.setIfInBounds_toArray, List.set_cons_zero, List.set_cons_succ])
   refine lk33 (i := 14) (oi := ⟨some 24, .fieldAddr 59 (.tmp 23) 0, 0, "l12_prices.go:20", #[⟨13, .data⟩, ⟨9, .guard⟩], some (9, true)⟩) (v := undef) rfl (Or.inr ⟨by rfl, rfl⟩) ?_
   (try simp only [Act.put, List.setIfInBounds_toArray, List.set_cons_zero, List.set_cons_succ])
   refine lk33 (i := 15) (oi := ⟨some 25, .load 9 (.tmp 24), 9, "l12_prices.go:20", #[⟨14, .data⟩, ⟨9, .guard⟩], some (9, true)⟩) (v := undef) rfl (Or.inr ⟨by rfl, rfl⟩) ?_
   (try simp only [Act.put, List.setIfInBounds_toArray, List.set_cons_zero, List.set_cons_succ])
   refine lk33 (i := 16) (oi := ⟨some 26, .move (.tmp 0), 26, "l12_prices.go:20", #[⟨9, .guard⟩], some (9, true)⟩) (v := undef) rfl (Or.inr ⟨by rfl, rfl⟩) ?_
   (try simp only [Act.put, List.setIfInBounds_toArray, List.set_cons_zero, List.set_cons_succ])
   refine lk33 (i := 17) (oi := ⟨some 27, .move (.tmp 3), 3, "l12_prices.go:20", #[⟨9, .guard⟩], some (9, true)⟩) (v := undef) rfl (Or.inr ⟨by rfl, rfl⟩) ?_
   (try simp only [Act.put, List.setIfInBounds_toArray, List.set_cons_zero, List.set_cons_succ])
   refine lk33 (i := 18) (oi := ⟨some 28, .indexAddr 26 (.tmp 26) (.tmp 27), 0, "l12_prices.go:20", #[⟨16, .data⟩, ⟨17, .data⟩, ⟨9, .guard⟩], some (9, true)⟩) (v := undef) rfl (Or.inr ⟨by rfl, rfl⟩) ?_
   (try simp only [Act.put, List.setIfInBounds_toArray, List.set_cons_zero, List.set_cons_succ])
   refine lk33 (i := 19) (oi := ⟨some 29, .fieldAddr 59 (.tmp 28) 0, 0, "l12_prices.go:20", #[⟨18, .data⟩, ⟨9, .guard⟩], some (9, true)⟩) (v := undef) rfl (Or.inr ⟨by rfl, rfl⟩) ?_
   (try simp only [Act.put, List.setIfInBounds_toArray, List.set_cons_zero, List.set_cons_succ])
   refine lk33 (i := 20) (oi := ⟨some 30, .load 9 (.tmp 29), 9, "l12_prices.go:20", #[⟨19, .data⟩, ⟨9, .guard⟩], some (9, true)⟩) (v := undef) rfl (Or.inr ⟨by rfl, rfl⟩) ?_
   (try simp only [Act.put, List.setIfInBounds_toArray, List.set_cons_zero, List.set_cons_succ])
   refine lk33 (i := 21) (oi := ⟨some 31, .binOp .geq 9 (.tmp 25) (.tmp 30) 9, 4, "l12_prices.go:20", #[⟨15, .data⟩, ⟨20, .data⟩, ⟨9, .guard⟩], some (9, true)⟩) (v := undef) rfl (Or.inr ⟨by rfl, rfl⟩) ?_
   (try simp only [Act.put, List.setIfInBounds_toArray, List.set_cons_zero, List.set_cons_succ])
   refine lk33 (i := 22) (oi := ⟨some 32, .pick (.tmp 19) (.tmp 31) (.const (Value.bool false)), 4, "l12_prices.go:20", #[⟨9, .data⟩, ⟨21, .data⟩, ⟨6, .guard⟩], some (6, false)⟩) (v := undef) rfl (Or.inr ⟨by rfl, rfl⟩) ?_
   (try simp only [Act.put, List.setIfInBounds_toArray, List.set_cons_zero, List.set_cons_succ])
   refine lk33 (i := 23) (oi := ⟨some 33, .pick (.tmp 16) (.const (Value.bool true)) (.tmp 32), 4, "l12_prices.go:20", #[⟨6, .data⟩, ⟨22, .data⟩], none⟩) (v := ?_) rfl (Or.inl ⟨by rfl, ?_⟩) ?_
   rotate_left
   ·intro w hSw
    (try dsimp only at hSw)
    first | (go_simp; done) | (go_simp; with_reducible rfl)
   (try simp only [Act.put, List.setIfInBounds_toArray, List.set_cons_zero, List.set_cons_succ])
   refine wpAnyH_done (by kernel_rfl) ?_ _
   have HF := Lib.hid (HNo.out (HOk.out.trans HB.out))
   have HBw := Lib.hid (HBr.out.trans ((Below.mk hb2.os hb2.tape hb2.output hb2.size hb2.block : Below wr.heap.size wr w2).mono HBr.out.size))
   go_wp2
   go_ret
   exact ⟨by rw [HD.out, HF.out]; rfl, HBw.out⟩
  have Hit := Lib.hid hit
  have HOy : Ofok l k = true := HOk.out.trans hit
  have HOY := Lib.hid HOy
  clear hit HOy
  rcases hls : ltS z.item x.item with _ | _
  ·have hbl : Op.bytesLess z.item.toList x.item.toList = false := hls
   have HF := Lib.hid (HNi.out (HIk.out.trans hls))
   clear hls
   have hS : wr.drew.cell? ⟨b, off + k * 3, none⟩ = some (.string x.item) ∧ wr.drew.cell? ⟨b, off + k * 3 + 1, none⟩ = some (.int .i64 x.buy) ∧ wr.drew.cell? ⟨b, off + k * 3 + 2, none⟩ = some (.int .i64 x.free) ∧ wr.drew.cell? ⟨b, off + j * 3, none⟩ = some (.string z.item) := ⟨d0, d1, d2, e0⟩
   go_wp2_with fail
   refine wp_region_held_drew (S := fun w' => w'.cell? ⟨b, off + k * 3, none⟩ = some (.string x.item) ∧ w'.cell? ⟨b, off + k * 3 + 1, none⟩ = some (.int .i64 x.buy) ∧ w'.cell? ⟨b, off + k * 3 + 2, none⟩ = some (.int .i64 x.free) ∧ w'.cell? ⟨b, off + j * 3, none⟩ = some (.string z.item)) (by kernel_rfl) hS (fun hHeld => ?_)
   clear hHeld
   refine lk33 (i := 0) (oi := ⟨some 10, .move (.tmp 0), 26, "l12_prices.go:20", #[], none⟩) (v := ?_) rfl (Or.inl ⟨by rfl, ?_⟩) ?_
   rotate_left
   ·intro w hSw
    (try dsimp only at hSw)
    first | (go_simp; done) | (go_simp; with_reducible rfl)
   (try simp only [Act.put, List.setIfInBounds_toArray, List.set_cons_zero, List.set_cons_succ])
   refine lk33 (i := 1) (oi := ⟨some 11, .move (.tmp 3), 3, "l12_prices.go:20", #[], none⟩) (v := ?_) rfl (Or.inl ⟨by rfl, ?_⟩) ?_
   rotate_left
   ·intro w hSw
    (try dsimp only at hSw)
    first | (go_simp; done) | (go_simp; with_reducible rfl)
   (try simp only [Act.put, List.setIfInBounds_toArray, List.set_cons_zero, List.set_cons_succ])
   refine lk33 (i := 2) (oi := ⟨some 12, .indexAddr 26 (.tmp 10) (.tmp 11), 0, "l12_prices.go:20", #[⟨0, .data⟩, ⟨1, .data⟩], none⟩) (v := ?_) rfl (Or.inl ⟨by rfl, ?_⟩) ?_
   rotate_left
   ·intro w hSw
    (try dsimp only at hSw)
    first | (go_simp; done) | (go_simp; with_reducible rfl)
   (try simp only [Act.put, List.setIfInBounds_toArray, List.set_cons_zero, List.set_cons_succ])
   refine lk33 (i := 3) (oi := ⟨some 13, .load 59 (.tmp 12), 59, "l12_prices.go:20", #[⟨2, .data⟩], none⟩) (v := ?_) rfl (Or.inl ⟨by rfl, ?_⟩) ?_
   rotate_left
   ·intro w hSw
    (try dsimp only at hSw)
    first | (go_simp; done) | (go_simp; with_reducible rfl)
   (try simp only [Act.put, List.setIfInBounds_toArray, List.set_cons_zero, List.set_cons_succ])
   refine rk 4 rfl (fun K hK => ?_)
   go_simp
   go_at_call 50
   refine (specOffer x.item x.buy x.free _ hio).mono ?_
   rintro e w2 ⟨rfl, hb2⟩
   rw [Hit.out]
   have hS2 := hS
   have hS3 : w2.cell? ⟨b, off + k * 3, none⟩ = some (.string x.item) ∧ w2.cell? ⟨b, off + k * 3 + 1, none⟩ = some (.int .i64 x.buy) ∧ w2.cell? ⟨b, off + k * 3 + 2, none⟩ = some (.int .i64 x.free) ∧ w2.cell? ⟨b, off + j * 3, none⟩ = some (.string z.item) := ⟨(hb2.cell (block_lt_of_cell hS.1)).trans hS.1, (hb2.cell (block_lt_of_cell hS.2.1)).trans hS.2.1, (hb2.cell (block_lt_of_cell hS.2.2.1)).trans hS.2.2.1, (hb2.cell (block_lt_of_cell hS.2.2.2)).trans hS.2.2.2⟩
   refine hK.out _ _ hS3 (fun hHeld2 => ?_)
   clear hK K
   (try simp only [Act.put, List.setIfInBounds_toArray, List.set_cons_zero, List.set_cons_succ])
   refine lk33 (i := 5) (oi := ⟨some 15, .unOp .not 4 (.tmp 14), 4, "l12_prices.go:20", #[⟨4, .data⟩], none⟩) (v := ?_) rfl (Or.inl ⟨by rfl, ?_⟩) ?_
   rotate_left
   ·intro w hSw
    (try dsimp only at hSw)
    first | (go_simp; done) | (go_simp; with_reducible rfl)
   (try simp only [Act.put, List.setIfInBounds_toArray, List.set_cons_zero, List.set_cons_succ])
   refine lk33 (i := 6) (oi := ⟨some 16, .move (.tmp 15), 4, "l12_prices.go:20", #[⟨5, .data⟩, ⟨4, .chain⟩], none⟩) (v := ?_) rfl (Or.inl ⟨by rfl, ?_⟩) ?_
   rotate_left
   ·intro w hSw
    (try dsimp only at hSw)
    first | (go_simp; done) | (go_simp; with_reducible rfl)
   (try simp only [Act.put, List.setIfInBounds_toArray, List.set_cons_zero, List.set_cons_succ])
   refine lk33 (i := 7) (oi := ⟨some 17, .move (.tmp 3), 3, "l12_prices.go:20", #[⟨6, .guard⟩], some (6, false)⟩) (v := ?_) rfl (Or.inl ⟨by rfl, ?_⟩) ?_
   rotate_left
   ·intro w hSw
    (try dsimp only at hSw)
    first | (go_simp; done) | (go_simp; with_reducible rfl)
   (try simp only [Act.put, List.setIfInBounds_toArray, List.set_cons_zero, List.set_cons_succ])
   refine lk33 (i := 8) (oi := ⟨some 18, .binOp .gtr 3 (.tmp 17) (.const (Value.int IntKind.i64 0)) 3, 4, "l12_prices.go:20", #[⟨7, .data⟩, ⟨6, .guard⟩], some (6, false)⟩) (v := ?_) rfl (Or.inl ⟨by rfl, ?_⟩) ?_
   rotate_left
   ·intro w hSw
    (try dsimp only at hSw)
    first | (go_simp; done) | (go_simp; with_reducible rfl)
   (try simp only [Act.put, List.setIfInBounds_toArray, List.set_cons_zero, List.set_cons_succ])
   refine lk33 (i := 9) (oi := ⟨some 19, .move (.tmp 18), 4, "l12_prices.go:20", #[⟨8, .data⟩, ⟨6, .chain⟩, ⟨6, .guard⟩], some (6, false)⟩) (v := ?_) rfl (Or.inl ⟨by rfl, ?_⟩) ?_
   rotate_left
   ·intro w hSw
    (try dsimp only at hSw)
    first | (go_simp; done) | (go_simp; with_reducible rfl)
   (try simp only [Act.put, List.setIfInBounds_toArray, List.set_cons_zero, List.set_cons_succ])
   refine lk33 (i := 10) (oi := ⟨some 20, .move (.tmp 0), 26, "l12_prices.go:20", #[⟨9, .guard⟩], some (9, true)⟩) (v := ?_) rfl (Or.inl ⟨by rfl, ?_⟩) ?_
   rotate_left
   ·intro w hSw
    (try dsimp only at hSw)
    first | (go_simp; done) | (go_simp; with_reducible rfl)
   (try simp only [Act.put, List.setIfInBounds_toArray, List.set_cons_zero, List.set_cons_succ])
   refine lk33 (i := 11) (oi := ⟨some 21, .move (.tmp 3), 3, "l12_prices.go:20", #[⟨9, .guard⟩], some (9, true)⟩) (v := ?_) rfl (Or.inl ⟨by rfl, ?_⟩) ?_
   rotate_left
   ·intro w hSw
    (try dsimp only at hSw)
    first | (go_simp; done) | (go_simp; with_reducible rfl)
   (try simp only [Act.put, List.setIfInBounds_toArray, List.set_cons_zero, List.set_cons_succ])
   refine lk33 (i := 12) (oi := ⟨some 22, .binOp .sub 3 (.tmp 21) (.const (Value.int IntKind.i64 1)) 3, 3, "l12_prices.go:20", #[⟨11, .data⟩, ⟨9, .guard⟩], some (9, true)⟩) (v := ?_) rfl (Or.inl ⟨by rfl, ?_⟩) ?_
   rotate_left
   ·intro w hSw
    (try dsimp only at hSw)
    first | (go_simp; done) | (go_simp; with_reducible rfl)
   (try simp only [Act.put, List.setIfInBounds_toArray, List.set_cons_zero, List.set_cons_succ])
   refine lk33 (i := 13) (oi := ⟨some 23, .indexAddr 26 (.tmp 20) (.tmp 22), 0, "l12_prices.go:20", #[⟨10, .data⟩, ⟨12, .data⟩, ⟨9, .guard⟩], some (9, true)⟩) (v := ?_) rfl (Or.inl ⟨by rfl, ?_⟩) ?_
   rotate_left
   ·intro w hSw
    (try dsimp only at hSw)
    first | (go_simp; done) | (go_simp; with_reducible rfl)
   (try simp only [Act.put, List.setIfInBounds_toArray, List.set_cons_zero, List.set_cons_succ])
   refine lk33 (i := 14) (oi := ⟨some 24, .fieldAddr 59 (.tmp 23) 0, 0, "l12_prices.go:20", #[⟨13, .data⟩, ⟨9, .guard⟩], some (9, true)⟩) (v := ?_) rfl (Or.inl ⟨by rfl, ?_⟩) ?_
   rotate_left
   ·intro w hSw
    (try dsimp only at hSw)
    first | (go_simp; done) | (go_simp; with_reducible rfl)
   (try simp only [Act.put, List.setIfInBounds_toArray, List.set_cons_zero, List.set_cons_succ])
   refine lk33 (i := 15) (oi := ⟨some 25, .load 9 (.tmp 24), 9, "l12_prices.go:20", #[⟨14, .data⟩, ⟨9, .guard⟩], some (9, true)⟩) (v := ?_) rfl (Or.inl ⟨by rfl, ?_⟩) ?_
   rotate_left
   ·intro w hSw
    (try dsimp only at hSw)
    first | (go_simp; done) | (go_simp; with_reducible rfl)
   (try simp only [Act.put, List.setIfInBounds_toArray, List.set_cons_zero, List.set_cons_succ])
   refine lk33 (i := 16) (oi := ⟨some 26, .move (.tmp 0), 26, "l12_prices.go:20", #[⟨9, .guard⟩], some (9, true)⟩) (v := ?_) rfl (Or.inl ⟨by rfl, ?_⟩) ?_
   rotate_left
   ·intro w hSw
    (try dsimp only at hSw)
    first | (go_simp; done) | (go_simp; with_reducible rfl)
   (try simp only [Act.put, List.setIfInBounds_toArray, List.set_cons_zero, List.set_cons_succ])
   refine lk33 (i := 17) (oi := ⟨some 27, .move (.tmp 3), 3, "l12_prices.go:20", #[⟨9, .guard⟩], some (9, true)⟩) (v := ?_) rfl (Or.inl ⟨by rfl, ?_⟩) ?_
   rotate_left
   ·intro w hSw
    (try dsimp only at hSw)
    first | (go_simp; done) | (go_simp; with_reducible rfl)
   (try simp only [Act.put, List.setIfInBounds_toArray, List.set_cons_zero, List.set_cons_succ])
   refine lk33 (i := 18) (oi := ⟨some 28, .indexAddr 26 (.tmp 26) (.tmp 27), 0, "l12_prices.go:20", #[⟨16, .data⟩, ⟨17, .data⟩, ⟨9, .guard⟩], some (9, true)⟩) (v := ?_) rfl (Or.inl ⟨by rfl, ?_⟩) ?_
   rotate_left
   ·intro w hSw
    (try dsimp only at hSw)
    first | (go_simp; done) | (go_simp; with_reducible rfl)
   (try simp only [Act.put, List.setIfInBounds_toArray, List.set_cons_zero, List.set_cons_succ])
   refine lk33 (i := 19) (oi := ⟨some 29, .fieldAddr 59 (.tmp 28) 0, 0, "l12_prices.go:20", #[⟨18, .data⟩, ⟨9, .guard⟩], some (9, true)⟩) (v := ?_) rfl (Or.inl ⟨by rfl, ?_⟩) ?_
   rotate_left
   ·intro w hSw
    (try dsimp only at hSw)
    first | (go_simp; done) | (go_simp; with_reducible rfl)
   (try simp only [Act.put, List.setIfInBounds_toArray, List.set_cons_zero, List.set_cons_succ])
   refine lk33 (i := 20) (oi := ⟨some 30, .load 9 (.tmp 29), 9, "l12_prices.go:20", #[⟨19, .data⟩, ⟨9, .guard⟩], some (9, true)⟩) (v := ?_) rfl (Or.inl ⟨by rfl, ?_⟩) ?_
   rotate_left
   ·intro w hSw
    (try dsimp only at hSw)
    first | (go_simp; done) | (go_simp; with_reducible rfl)
   (try simp only [Act.put, List.setIfInBounds_toArray, List.set_cons_zero, List.set_cons_succ])
   refine lk33 (i := 21) (oi := ⟨some 31, .binOp .geq 9 (.tmp 25) (.tmp 30) 9, 4, "l12_prices.go:20", #[⟨15, .data⟩, ⟨20, .data⟩, ⟨9, .guard⟩], some (9, true)⟩) (v := ?_) rfl (Or.inl ⟨by rfl, ?_⟩) ?_
   rotate_left
   ·intro w hSw
    (try dsimp only at hSw)
    first | (go_simp; done) | (go_simp; with_reducible rfl)
   (try simp only [Act.put, List.setIfInBounds_toArray, List.set_cons_zero, List.set_cons_succ])
   refine lk33 (i := 22) (oi := ⟨some 32, .pick (.tmp 19) (.tmp 31) (.const (Value.bool false)), 4, "l12_prices.go:20", #[⟨9, .data⟩, ⟨21, .data⟩, ⟨6, .guard⟩], some (6, false)⟩) (v := ?_) rfl (Or.inl ⟨by rfl, ?_⟩) ?_
   rotate_left
   ·intro w hSw
    (try dsimp only at hSw)
    first | (go_simp; done) | (go_simp; with_reducible rfl)
   (try simp only [Act.put, List.setIfInBounds_toArray, List.set_cons_zero, List.set_cons_succ])
   refine lk33 (i := 23) (oi := ⟨some 33, .pick (.tmp 16) (.const (Value.bool true)) (.tmp 32), 4, "l12_prices.go:20", #[⟨6, .data⟩, ⟨22, .data⟩], none⟩) (v := ?_) rfl (Or.inl ⟨by rfl, ?_⟩) ?_
   rotate_left
   ·intro w hSw
    (try dsimp only at hSw)
    first | (go_simp; done) | (go_simp; with_reducible rfl)
   (try simp only [Act.put, List.setIfInBounds_toArray, List.set_cons_zero, List.set_cons_succ])
   refine wpAnyH_done (by kernel_rfl) ?_ _
   have HBw := Lib.hid (HBr.out.trans ((Below.mk hb2.os hb2.tape hb2.output hb2.size hb2.block : Below wr.heap.size wr w2).mono HBr.out.size))
   go_wp2
   go_ret
   exact ⟨by rw [HD.out, HF.out]; rfl, HBw.out⟩
  have hbl : Op.bytesLess z.item.toList x.item.toList = true := hls
  have HA := Lib.hid (HSo.out HOY.out)
  have HBb := Lib.hid (HSi.out (HIk.out.trans hls))
  clear hls
  have hS : wr.drew.cell? ⟨b, off + k * 3, none⟩ = some (.string x.item) ∧ wr.drew.cell? ⟨b, off + k * 3 + 1, none⟩ = some (.int .i64 x.buy) ∧ wr.drew.cell? ⟨b, off + k * 3 + 2, none⟩ = some (.int .i64 x.free) ∧ wr.drew.cell? ⟨b, off + j * 3, none⟩ = some (.string z.item) := ⟨d0, d1, d2, e0⟩
  go_wp2_with fail
  refine wp_region_held_drew (S := fun w' => w'.cell? ⟨b, off + k * 3, none⟩ = some (.string x.item) ∧ w'.cell? ⟨b, off + k * 3 + 1, none⟩ = some (.int .i64 x.buy) ∧ w'.cell? ⟨b, off + k * 3 + 2, none⟩ = some (.int .i64 x.free) ∧ w'.cell? ⟨b, off + j * 3, none⟩ = some (.string z.item)) (by kernel_rfl) hS (fun hHeld => ?_)
  clear hHeld
  refine lk33 (i := 0) (oi := ⟨some 10, .move (.tmp 0), 26, "l12_prices.go:20", #[], none⟩) (v := ?_) rfl (Or.inl ⟨by rfl, ?_⟩) ?_
  rotate_left
  ·intro w hSw
   (try dsimp only at hSw)
   first | (go_simp; done) | (go_simp; with_reducible rfl)
  (try simp only [Act.put, List.setIfInBounds_toArray, List.set_cons_zero, List.set_cons_succ])
  refine lk33 (i := 1) (oi := ⟨some 11, .move (.tmp 3), 3, "l12_prices.go:20", #[], none⟩) (v := ?_) rfl (Or.inl ⟨by rfl, ?_⟩) ?_
  rotate_left
  ·intro w hSw
   (try dsimp only at hSw)
   first | (go_simp; done) | (go_simp; with_reducible rfl)
  (try simp only [Act.put, List.setIfInBounds_toArray, List.set_cons_zero, List.set_cons_succ])
  refine lk33 (i := 2) (oi := ⟨some 12, .indexAddr 26 (.tmp 10) (.tmp 11), 0, "l12_prices.go:20", #[⟨0, .data⟩, ⟨1, .data⟩], none⟩) (v := ?_) rfl (Or.inl ⟨by rfl, ?_⟩) ?_
  rotate_left
  ·intro w hSw
   (try dsimp only at hSw)
   first | (go_simp; done) | (go_simp; with_reducible rfl)
  (try simp only [Act.put, List.setIfInBounds_toArray, List.set_cons_zero, List.set_cons_succ])
  refine lk33 (i := 3) (oi := ⟨some 13, .load 59 (.tmp 12), 59, "l12_prices.go:20", #[⟨2, .data⟩], none⟩) (v := ?_) rfl (Or.inl ⟨by rfl, ?_⟩) ?_
  rotate_left
  ·intro w hSw
   (try dsimp only at hSw)
   first | (go_simp; done) | (go_simp; with_reducible rfl)
  (try simp only [Act.put, List.setIfInBounds_toArray, List.set_cons_zero, List.set_cons_succ])
  refine rk 4 rfl (fun K hK => ?_)
  go_simp
  go_at_call 50
  refine (specOffer x.item x.buy x.free _ hio).mono ?_
  rintro e w2 ⟨rfl, hb2⟩
  rw [Hit.out]
  have hS2 := hS
  have hS3 : w2.cell? ⟨b, off + k * 3, none⟩ = some (.string x.item) ∧ w2.cell? ⟨b, off + k * 3 + 1, none⟩ = some (.int .i64 x.buy) ∧ w2.cell? ⟨b, off + k * 3 + 2, none⟩ = some (.int .i64 x.free) ∧ w2.cell? ⟨b, off + j * 3, none⟩ = some (.string z.item) := ⟨(hb2.cell (block_lt_of_cell hS.1)).trans hS.1, (hb2.cell (block_lt_of_cell hS.2.1)).trans hS.2.1, (hb2.cell (block_lt_of_cell hS.2.2.1)).trans hS.2.2.1, (hb2.cell (block_lt_of_cell hS.2.2.2)).trans hS.2.2.2⟩
  refine hK.out _ _ hS3 (fun hHeld2 => ?_)
  clear hK K
  (try simp only [Act.put, List.setIfInBounds_toArray, List.set_cons_zero, List.set_cons_succ])
  refine lk33 (i := 5) (oi := ⟨some 15, .unOp .not 4 (.tmp 14), 4, "l12_prices.go:20", #[⟨4, .data⟩], none⟩) (v := ?_) rfl (Or.inl ⟨by rfl, ?_⟩) ?_
  rotate_left
  ·intro w hSw
   (try dsimp only at hSw)
   first | (go_simp; done) | (go_simp; with_reducible rfl)
  (try simp only [Act.put, List.setIfInBounds_toArray, List.set_cons_zero, List.set_cons_succ])
  refine lk33 (i := 6) (oi := ⟨some 16, .move (.tmp 15), 4, "l12_prices.go:20", #[⟨5, .data⟩, ⟨4, .chain⟩], none⟩) (v := ?_) rfl (Or.inl ⟨by rfl, ?_⟩) ?_
  rotate_left
  ·intro w hSw
   (try dsimp only at hSw)
   first | (go_simp; done) | (go_simp; with_reducible rfl)
  (try simp only [Act.put, List.setIfInBounds_toArray, List.set_cons_zero, List.set_cons_succ])
  refine lk33 (i := 7) (oi := ⟨some 17, .move (.tmp 3), 3, "l12_prices.go:20", #[⟨6, .guard⟩], some (6, false)⟩) (v := ?_) rfl (Or.inl ⟨by rfl, ?_⟩) ?_
  rotate_left
  ·intro w hSw
   (try dsimp only at hSw)
   first | (go_simp; done) | (go_simp; with_reducible rfl)
  (try simp only [Act.put, List.setIfInBounds_toArray, List.set_cons_zero, List.set_cons_succ])
  refine lk33 (i := 8) (oi := ⟨some 18, .binOp .gtr 3 (.tmp 17) (.const (Value.int IntKind.i64 0)) 3, 4, "l12_prices.go:20", #[⟨7, .data⟩, ⟨6, .guard⟩], some (6, false)⟩) (v := ?_) rfl (Or.inl ⟨by rfl, ?_⟩) ?_
  rotate_left
  ·intro w hSw
   (try dsimp only at hSw)
   first | (go_simp; done) | (go_simp; with_reducible rfl)
  (try simp only [Act.put, List.setIfInBounds_toArray, List.set_cons_zero, List.set_cons_succ])
  refine lk33 (i := 9) (oi := ⟨some 19, .move (.tmp 18), 4, "l12_prices.go:20", #[⟨8, .data⟩, ⟨6, .chain⟩, ⟨6, .guard⟩], some (6, false)⟩) (v := ?_) rfl (Or.inl ⟨by rfl, ?_⟩) ?_
  rotate_left
  ·intro w hSw
   (try dsimp only at hSw)
   first | (go_simp; done) | (go_simp; with_reducible rfl)
  (try simp only [Act.put, List.setIfInBounds_toArray, List.set_cons_zero, List.set_cons_succ])
  refine lk33 (i := 10) (oi := ⟨some 20, .move (.tmp 0), 26, "l12_prices.go:20", #[⟨9, .guard⟩], some (9, true)⟩) (v := ?_) rfl (Or.inl ⟨by rfl, ?_⟩) ?_
  rotate_left
  ·intro w hSw
   (try dsimp only at hSw)
   first | (go_simp; done) | (go_simp; with_reducible rfl)
  (try simp only [Act.put, List.setIfInBounds_toArray, List.set_cons_zero, List.set_cons_succ])
  refine lk33 (i := 11) (oi := ⟨some 21, .move (.tmp 3), 3, "l12_prices.go:20", #[⟨9, .guard⟩], some (9, true)⟩) (v := ?_) rfl (Or.inl ⟨by rfl, ?_⟩) ?_
  rotate_left
  ·intro w hSw
   (try dsimp only at hSw)
   first | (go_simp; done) | (go_simp; with_reducible rfl)
  (try simp only [Act.put, List.setIfInBounds_toArray, List.set_cons_zero, List.set_cons_succ])
  refine lk33 (i := 12) (oi := ⟨some 22, .binOp .sub 3 (.tmp 21) (.const (Value.int IntKind.i64 1)) 3, 3, "l12_prices.go:20", #[⟨11, .data⟩, ⟨9, .guard⟩], some (9, true)⟩) (v := ?_) rfl (Or.inl ⟨by rfl, ?_⟩) ?_
  rotate_left
  ·intro w hSw
   (try dsimp only at hSw)
   first | (go_simp; done) | (go_simp; with_reducible rfl)
  (try simp only [Act.put, List.setIfInBounds_toArray, List.set_cons_zero, List.set_cons_succ])
  refine lk33 (i := 13) (oi := ⟨some 23, .indexAddr 26 (.tmp 20) (.tmp 22), 0, "l12_prices.go:20", #[⟨10, .data⟩, ⟨12, .data⟩, ⟨9, .guard⟩], some (9, true)⟩) (v := ?_) rfl (Or.inl ⟨by rfl, ?_⟩) ?_
  rotate_left
  ·intro w hSw
   (try dsimp only at hSw)
   first | (go_simp; done) | (go_simp; with_reducible rfl)
  (try simp only [Act.put, List.setIfInBounds_toArray, List.set_cons_zero, List.set_cons_succ])
  refine lk33 (i := 14) (oi := ⟨some 24, .fieldAddr 59 (.tmp 23) 0, 0, "l12_prices.go:20", #[⟨13, .data⟩, ⟨9, .guard⟩], some (9, true)⟩) (v := ?_) rfl (Or.inl ⟨by rfl, ?_⟩) ?_
  rotate_left
  ·intro w hSw
   (try dsimp only at hSw)
   first | (go_simp; done) | (go_simp; with_reducible rfl)
  (try simp only [Act.put, List.setIfInBounds_toArray, List.set_cons_zero, List.set_cons_succ])
  refine lk33 (i := 15) (oi := ⟨some 25, .load 9 (.tmp 24), 9, "l12_prices.go:20", #[⟨14, .data⟩, ⟨9, .guard⟩], some (9, true)⟩) (v := ?_) rfl (Or.inl ⟨by rfl, ?_⟩) ?_
  rotate_left
  ·intro w hSw
   (try dsimp only at hSw)
   first | (go_simp; done) | (go_simp; with_reducible rfl)
  (try simp only [Act.put, List.setIfInBounds_toArray, List.set_cons_zero, List.set_cons_succ])
  refine lk33 (i := 16) (oi := ⟨some 26, .move (.tmp 0), 26, "l12_prices.go:20", #[⟨9, .guard⟩], some (9, true)⟩) (v := ?_) rfl (Or.inl ⟨by rfl, ?_⟩) ?_
  rotate_left
  ·intro w hSw
   (try dsimp only at hSw)
   first | (go_simp; done) | (go_simp; with_reducible rfl)
  (try simp only [Act.put, List.setIfInBounds_toArray, List.set_cons_zero, List.set_cons_succ])
  refine lk33 (i := 17) (oi := ⟨some 27, .move (.tmp 3), 3, "l12_prices.go:20", #[⟨9, .guard⟩], some (9, true)⟩) (v := ?_) rfl (Or.inl ⟨by rfl, ?_⟩) ?_
  rotate_left
  ·intro w hSw
   (try dsimp only at hSw)
   first | (go_simp; done) | (go_simp; with_reducible rfl)
  (try simp only [Act.put, List.setIfInBounds_toArray, List.set_cons_zero, List.set_cons_succ])
  refine lk33 (i := 18) (oi := ⟨some 28, .indexAddr 26 (.tmp 26) (.tmp 27), 0, "l12_prices.go:20", #[⟨16, .data⟩, ⟨17, .data⟩, ⟨9, .guard⟩], some (9, true)⟩) (v := ?_) rfl (Or.inl ⟨by rfl, ?_⟩) ?_
  rotate_left
  ·intro w hSw
   (try dsimp only at hSw)
   first | (go_simp; done) | (go_simp; with_reducible rfl)
  (try simp only [Act.put, List.setIfInBounds_toArray, List.set_cons_zero, List.set_cons_succ])
  refine lk33 (i := 19) (oi := ⟨some 29, .fieldAddr 59 (.tmp 28) 0, 0, "l12_prices.go:20", #[⟨18, .data⟩, ⟨9, .guard⟩], some (9, true)⟩) (v := ?_) rfl (Or.inl ⟨by rfl, ?_⟩) ?_
  rotate_left
  ·intro w hSw
   (try dsimp only at hSw)
   first | (go_simp; done) | (go_simp; with_reducible rfl)
  (try simp only [Act.put, List.setIfInBounds_toArray, List.set_cons_zero, List.set_cons_succ])
  refine lk33 (i := 20) (oi := ⟨some 30, .load 9 (.tmp 29), 9, "l12_prices.go:20", #[⟨19, .data⟩, ⟨9, .guard⟩], some (9, true)⟩) (v := ?_) rfl (Or.inl ⟨by rfl, ?_⟩) ?_
  rotate_left
  ·intro w hSw
   (try dsimp only at hSw)
   first | (go_simp; done) | (go_simp; with_reducible rfl)
  (try simp only [Act.put, List.setIfInBounds_toArray, List.set_cons_zero, List.set_cons_succ])
  refine lk33 (i := 21) (oi := ⟨some 31, .binOp .geq 9 (.tmp 25) (.tmp 30) 9, 4, "l12_prices.go:20", #[⟨15, .data⟩, ⟨20, .data⟩, ⟨9, .guard⟩], some (9, true)⟩) (v := ?_) rfl (Or.inl ⟨by rfl, ?_⟩) ?_
  rotate_left
  ·intro w hSw
   (try dsimp only at hSw)
   first | (go_simp; done) | (go_simp; with_reducible rfl)
  (try simp only [Act.put, List.setIfInBounds_toArray, List.set_cons_zero, List.set_cons_succ])
  refine lk33 (i := 22) (oi := ⟨some 32, .pick (.tmp 19) (.tmp 31) (.const (Value.bool false)), 4, "l12_prices.go:20", #[⟨9, .data⟩, ⟨21, .data⟩, ⟨6, .guard⟩], some (6, false)⟩) (v := ?_) rfl (Or.inl ⟨by rfl, ?_⟩) ?_
  rotate_left
  ·intro w hSw
   (try dsimp only at hSw)
   first | (go_simp; done) | (go_simp; with_reducible rfl)
  (try simp only [Act.put, List.setIfInBounds_toArray, List.set_cons_zero, List.set_cons_succ])
  refine lk33 (i := 23) (oi := ⟨some 33, .pick (.tmp 16) (.const (Value.bool true)) (.tmp 32), 4, "l12_prices.go:20", #[⟨6, .data⟩, ⟨22, .data⟩], none⟩) (v := ?_) rfl (Or.inl ⟨by rfl, ?_⟩) ?_
  rotate_left
  ·intro w hSw
   (try dsimp only at hSw)
   first | (go_simp; done) | (go_simp; with_reducible rfl)
  (try simp only [Act.put, List.setIfInBounds_toArray, List.set_cons_zero, List.set_cons_succ])
  refine wpAnyH_done (by kernel_rfl) ?_ _
  have HBw := Lib.hid (HBr.out.trans ((Below.mk hb2.os hb2.tape hb2.output hb2.size hb2.block : Below wr.heap.size wr w2).mono HBr.out.size))
  clear hb2 hS hS2 hS3
  go_wp2
  go_roundw
  case rel => exact ⟨k + 1, by omega, by go_num, HBw, HA, HBb⟩
  case measure => simp [intOf]; omega
end Go.Proofs.YtgagchlcafdiaaaGreat
