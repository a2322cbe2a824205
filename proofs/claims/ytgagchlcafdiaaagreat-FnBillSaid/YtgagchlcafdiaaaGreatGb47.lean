/- Walks and mathematics that several claims share, part 47. -/
import Derived.Test.YtgagchlcafdiaaaGreatGb34
import Derived.Test.YtgagchlcafdiaaaGreatGb33
namespace Go.Proofs.YtgagchlcafdiaaaGreat
open Go.RowKit
open List (setIfInBounds_toArray set_cons_zero set_cons_succ)
open Go in
theorem lk47 {P : Program} {ops : Array Oper} {Q : Exit → Act → World → Prop} {md : Region.Mode} {S : World → Prop} {i : Nat} {oi : Oper} {v : Value} {fuel : Nat} {listed : Array Bool} {a : Act} {w : World} (hi : ops[i]? = some oi) (hd : (Region.wanted oi (yielded ops a.tmps) = true ∧ ∀ w, S w → (execOp a.eval oi).run P w = .ok (.value v) w) ∨ (Region.wanted oi (yielded ops a.tmps) = false ∧ v = undef)) (h : wpAnyH P md ops Q S fuel (listed.setIfInBounds i true) (a.put oi.dst v) w) (hs : Region.noSelect ops = true := by kernel_rfl) (hf : Region.free md ops listed i = true := by kernel_rfl) (hr : (Region.ready md ops listed).contains i = true := by kernel_rfl) (hQ : ∀ c a w, Q (.panic c) (a.put oi.dst v) w → Q (.panic c) a w := by exact fun _ _ _ h => h) (hS : S w := by assumption) : wpAnyH P md ops Q S (fuel + 1) listed a w := wpAnyH_take hi hs hf hr hQ hd hS h
set_option linter.unusedVariables false
set_option linter.unusedSimpArgs false

set_option maxRecDepth 100000 in
set_option maxHeartbeats 20000000 in
theorem specLnsOk (w : World) (B : Nat) (a : Option Addr) (n c : Nat) (l : List LnV) (h : Lns w B a n l) (hn : n ≤ 1048576) (hm : ∀ i, i < n → (atLn l i).item.size ≤ 1048576) :
  Calls Tryz.prog 24 #[.slice a n c] w fun e w' => e = .returned (.bool (LnsB l)) ∧ Below w.heap.size w w' := by
 have H := Lib.hid h
 have HM := Lib.hid hm
 have hl : l.length = n := h.1
 have HD : Hid (LnsB l = sort2 n (Lnok l) (Lninc l)) := by show LnsB l = _; unfold LnsB; rw [hl]
 clear h hm hl
 go_enter Tryz.func24, Tryz.ntmps24
 go_wp2
 go_loopw [3] (fun i wr => ∃ k m : Nat, k ≤ n ∧ i = .int .i64 (k : Int) ∧ wr = w.drewN m ∧ Hid (∀ i, i < k → Lnok l i = true) ∧ Hid (∀ i, i < k → Lninc l i = true)) (fun i _ => n - (intOf i).toNat)
 case atStart => exact ⟨0, 0, Nat.zero_le _, rfl, rfl, fun i hi => absurd hi (by omega), fun i hi => absurd hi (by omega)⟩
 case round =>
  obtain ⟨k, m, hk, rfl, rfl, HO, HI⟩ := hrel
  by_cases hlt : k < n
  rotate_left
  ·obtain rfl : k = n := by omega
   have HF := Lib.hid (sort2_len HO.out HI.out)
   go_wp2
   go_ret
   exact ⟨by rw [HD.out, HF.out]; exact ret_bool (by rw [Bool.eq_iff_iff]; simp; omega), rfl, rfl, rfl, Nat.le_refl _, fun _ _ => rfl⟩
  have hki : (k : Int) < (n : Int) := by omega
  have hk0 : (0 : Int) ≤ (k : Int) := by omega
  obtain ⟨b, off, hao, hb, ho⟩ := H.out.2 k hlt
  have hio := HM.out k hlt
  have HNo := Lib.hid (fun hh => sort2_ok (inc := Lninc l) (all_range_no (p := Lnok l) (n := n) (i := k) hlt hh))
  have HNi := Lib.hid (fun hh => sort2_inc (ok := Lnok l) (all_range_no (p := Lninc l) (n := n) (i := k) hlt hh))
  have HSo := Lib.hid (fun hh => allp_stepS HO.out (k := k) hh)
  have HSi := Lib.hid (fun hh => allp_stepS HI.out (k := k) hh)
  have HOk : Hid (Lnok l k = (atLn l k).ok) := rfl
  have ho' : LnAt (w.drewN m).drew b (off + k * 3) (atLn l k) := ho.kept (w' := (w.drewN m).drew) rfl
  clear ho HO HI
  by_cases hz : k = 0
  ·have hzi : decide (0 < k) = false := decide_eq_false (by omega)
   have HZ := Lib.hid hz
   clear hz
   subst hao
   generalize atLn l k = x at hio HOk ho'
   obtain ⟨d0, d1, d2⟩ := ho'
   rcases hit : itemB x.item with _ | _
   ·have Hit := Lib.hid hit
    have HB : Hid (x.ok = false) := by show x.ok = false; unfold LnV.ok; rw [hit]; rfl
    clear hit
    have hS : (w.drewN m).drew.cell? ⟨b, off + k * 3, none⟩ = some (.string x.item) ∧ (w.drewN m).drew.cell? ⟨b, off + k * 3 + 1, none⟩ = some (.int .i64 x.qty) ∧ (w.drewN m).drew.cell? ⟨b, off + k * 3 + 2, none⟩ = some (.bool x.saved) := ⟨d0, d1, d2⟩
    go_wp2_with fail
    refine wp_region_held_drew (S := fun w' => w'.cell? ⟨b, off + k * 3, none⟩ = some (.string x.item) ∧ w'.cell? ⟨b, off + k * 3 + 1, none⟩ = some (.int .i64 x.qty) ∧ w'.cell? ⟨b, off + k * 3 + 2, none⟩ = some (.bool x.saved)) (by kernel_rfl) hS (fun hHeld => ?_)
    clear hHeld
    refine lk47 (i := 0) (oi := ⟨some 10, .move (.tmp 0), 24, "l12_prices.go:51", #[], none⟩) (v := ?_) rfl (Or.inl ⟨by rfl, ?_⟩) ?_
    rotate_left
    ·intro w hSw
     (try dsimp only at hSw)
     first | (go_simp; done) | (go_simp; with_reducible rfl)
    (try simp only [Act.put, setIfInBounds_toArray, set_cons_zero, set_cons_succ])
    refine lk47 (i := 1) (oi := ⟨some 11, .move (.tmp 3), 3, "l12_prices.go:51", #[], none⟩) (v := ?_) rfl (Or.inl ⟨by rfl, ?_⟩) ?_
    rotate_left
    ·intro w hSw
     (try dsimp only at hSw)
     first | (go_simp; done) | (go_simp; with_reducible rfl)
    (try simp only [Act.put, setIfInBounds_toArray, set_cons_zero, set_cons_succ])
    refine lk47 (i := 2) (oi := ⟨some 12, .indexAddr 24 (.tmp 10) (.tmp 11), 0, "l12_prices.go:51", #[⟨0, .data⟩, ⟨1, .data⟩], none⟩) (v := ?_) rfl (Or.inl ⟨by rfl, ?_⟩) ?_
    rotate_left
    ·intro w hSw
     (try dsimp only at hSw)
     first | (go_simp; done) | (go_simp; with_reducible rfl)
    (try simp only [Act.put, setIfInBounds_toArray, set_cons_zero, set_cons_succ])
    refine lk47 (i := 3) (oi := ⟨some 13, .fieldAddr 40 (.tmp 12) 0, 0, "l12_prices.go:51", #[⟨2, .data⟩], none⟩) (v := ?_) rfl (Or.inl ⟨by rfl, ?_⟩) ?_
    rotate_left
    ·intro w hSw
     (try dsimp only at hSw)
     first | (go_simp; done) | (go_simp; with_reducible rfl)
    (try simp only [Act.put, setIfInBounds_toArray, set_cons_zero, set_cons_succ])
    refine lk47 (i := 4) (oi := ⟨some 14, .load 9 (.tmp 13), 9, "l12_prices.go:51", #[⟨3, .data⟩], none⟩) (v := ?_) rfl (Or.inl ⟨by rfl, ?_⟩) ?_
    rotate_left
    ·intro w hSw
     (try dsimp only at hSw)
     first | (go_simp; done) | (go_simp; with_reducible rfl)
    (try simp only [Act.put, setIfInBounds_toArray, set_cons_zero, set_cons_succ])
    refine rk 5 rfl (fun K hK => ?_)
    go_simp
    go_at_call 33
    refine (l3Item x.item hio _).mono ?_
    rintro e w2 ⟨rfl, rfl⟩
    rw [Hit.out]
    refine hK.out _ _ hS (fun hHeld2 => ?_)
    clear hK K
    (try simp only [Act.put, setIfInBounds_toArray, set_cons_zero, set_cons_succ])
    refine lk47 (i := 6) (oi := ⟨some 16, .unOp .not 4 (.tmp 15), 4, "l12_prices.go:51", #[⟨5, .data⟩], none⟩) (v := ?_) rfl (Or.inl ⟨by rfl, ?_⟩) ?_
    rotate_left
    ·intro w hSw
     (try dsimp only at hSw)
     first | (go_simp; done) | (go_simp; with_reducible rfl)
    (try simp only [Act.put, setIfInBounds_toArray, set_cons_zero, set_cons_succ])
    refine lk47 (i := 7) (oi := ⟨some 17, .move (.tmp 16), 4, "l12_prices.go:51", #[⟨6, .data⟩, ⟨5, .chain⟩], none⟩) (v := ?_) rfl (Or.inl ⟨by rfl, ?_⟩) ?_
    rotate_left
    ·intro w hSw
     (try dsimp only at hSw)
     first | (go_simp; done) | (go_simp; with_reducible rfl)
    (try simp only [Act.put, setIfInBounds_toArray, set_cons_zero, set_cons_succ])
    refine lk47 (i := 8) (oi := ⟨some 18, .move (.tmp 0), 24, "l12_prices.go:51", #[⟨7, .guard⟩], some (7, false)⟩) (v := undef) rfl (Or.inr ⟨by rfl, rfl⟩) ?_
    (try simp only [Act.put, setIfInBounds_toArray, set_cons_zero, set_cons_succ])
    refine lk47 (i := 9) (oi := ⟨some 19, .move (.tmp 3), 3, "l12_prices.go:51", #[⟨7, .guard⟩], some (7, false)⟩) (v := undef) rfl (Or.inr ⟨by rfl, rfl⟩) ?_
    (try simp only [Act.put, setIfInBounds_toArray, set_cons_zero, set_cons_succ])
    refine lk47 (i := 10) (oi := ⟨some 20, .indexAddr 24 (.tmp 18) (.tmp 19), 0, "l12_prices.go:51", #[⟨8, .data⟩, ⟨9, .data⟩, ⟨7, .guard⟩], some (7, false)⟩) (v := undef) rfl (Or.inr ⟨by rfl, rfl⟩) ?_
    (try simp only [Act.put, setIfInBounds_toArray, set_cons_zero, set_cons_succ])
    refine lk47 (i := 11) (oi := ⟨some 21, .fieldAddr 40 (.tmp 20) 1, 0, "l12_prices.go:51", #[⟨10, .data⟩, ⟨7, .guard⟩], some (7, false)⟩) (v := undef) rfl (Or.inr ⟨by rfl, rfl⟩) ?_
    (try simp only [Act.put, setIfInBounds_toArray, set_cons_zero, set_cons_succ])
    refine lk47 (i := 12) (oi := ⟨some 22, .load 2 (.tmp 21), 2, "l12_prices.go:51", #[⟨11, .data⟩, ⟨7, .guard⟩], some (7, false)⟩) (v := undef) rfl (Or.inr ⟨by rfl, rfl⟩) ?_
    (try simp only [Act.put, setIfInBounds_toArray, set_cons_zero, set_cons_succ])
    refine lk47 (i := 13) (oi := ⟨some 23, .call ⟨.value (.func 34), #[.tmp 22, .const (Value.int IntKind.i64 1), .const (Value.int IntKind.i64 999)], #[2, 2, 2]⟩, 4, "l12_prices.go:51", #[⟨12, .data⟩, ⟨7, .chain⟩, ⟨7, .guard⟩], some (7, false)⟩) (v := undef) rfl (Or.inr ⟨by rfl, rfl⟩) ?_
    (try simp only [Act.put, setIfInBounds_toArray, set_cons_zero, set_cons_succ])
    refine lk47 (i := 14) (oi := ⟨some 24, .unOp .not 4 (.tmp 23), 4, "l12_prices.go:51", #[⟨13, .data⟩, ⟨7, .guard⟩], some (7, false)⟩) (v := undef) rfl (Or.inr ⟨by rfl, rfl⟩) ?_
    (try simp only [Act.put, setIfInBounds_toArray, set_cons_zero, set_cons_succ])
    refine lk47 (i := 15) (oi := ⟨some 25, .pick (.tmp 17) (.const (Value.bool true)) (.tmp 24), 4, "l12_prices.go:51", #[⟨7, .data⟩, ⟨14, .data⟩], none⟩) (v := ?_) rfl (Or.inl ⟨by rfl, ?_⟩) ?_
    rotate_left
    ·intro w hSw
     (try dsimp only at hSw)
     first | (go_simp; done) | (go_simp; with_reducible rfl)
    (try simp only [Act.put, setIfInBounds_toArray, set_cons_zero, set_cons_succ])
    refine lk47 (i := 16) (oi := ⟨some 26, .move (.tmp 25), 4, "l12_prices.go:51", #[⟨15, .data⟩, ⟨13, .chain⟩], none⟩) (v := ?_) rfl (Or.inl ⟨by rfl, ?_⟩) ?_
    rotate_left
    ·intro w hSw
     (try dsimp only at hSw)
     first | (go_simp; done) | (go_simp; with_reducible rfl)
    (try simp only [Act.put, setIfInBounds_toArray, set_cons_zero, set_cons_succ])
    refine lk47 (i := 17) (oi := ⟨some 27, .move (.tmp 3), 3, "l12_prices.go:51", #[⟨16, .guard⟩], some (16, false)⟩) (v := undef) rfl (Or.inr ⟨by rfl, rfl⟩) ?_
    (try simp only [Act.put, setIfInBounds_toArray, set_cons_zero, set_cons_succ])
    refine lk47 (i := 18) (oi := ⟨some 28, .binOp .gtr 3 (.tmp 27) (.const (Value.int IntKind.i64 0)) 3, 4, "l12_prices.go:51", #[⟨17, .data⟩, ⟨16, .guard⟩], some (16, false)⟩) (v := undef) rfl (Or.inr ⟨by rfl, rfl⟩) ?_
    (try simp only [Act.put, setIfInBounds_toArray, set_cons_zero, set_cons_succ])
    refine lk47 (i := 19) (oi := ⟨some 29, .move (.tmp 28), 4, "l12_prices.go:51", #[⟨18, .data⟩, ⟨16, .chain⟩, ⟨16, .guard⟩], some (16, false)⟩) (v := undef) rfl (Or.inr ⟨by rfl, rfl⟩) ?_
    (try simp only [Act.put, setIfInBounds_toArray, set_cons_zero, set_cons_succ])
    refine lk47 (i := 20) (oi := ⟨some 30, .move (.tmp 0), 24, "l12_prices.go:51", #[⟨19, .guard⟩], some (19, true)⟩) (v := undef) rfl (Or.inr ⟨by rfl, rfl⟩) ?_
    (try simp only [Act.put, setIfInBounds_toArray, set_cons_zero, set_cons_succ])
    refine lk47 (i := 21) (oi := ⟨some 31, .move (.tmp 3), 3, "l12_prices.go:51", #[⟨19, .guard⟩], some (19, true)⟩) (v := undef) rfl (Or.inr ⟨by rfl, rfl⟩) ?_
    (try simp only [Act.put, setIfInBounds_toArray, set_cons_zero, set_cons_succ])
    refine lk47 (i := 22) (oi := ⟨some 32, .binOp .sub 3 (.tmp 31) (.const (Value.int IntKind.i64 1)) 3, 3, "l12_prices.go:51", #[⟨21, .data⟩, ⟨19, .guard⟩], some (19, true)⟩) (v := undef) rfl (Or.inr ⟨by rfl, rfl⟩) ?_
    (try simp only [Act.put, setIfInBounds_toArray, set_cons_zero, set_cons_succ])
    refine lk47 (i := 23) (oi := ⟨some 33, .indexAddr 24 (.tmp 30) (.tmp 32), 0, "l12_prices.go:51", #[⟨20, .data⟩, ⟨22, .data⟩, ⟨19, .guard⟩], some (19, true)⟩) (v := undef) rfl (Or.inr ⟨by rfl, rfl⟩) ?_
    (try simp only [Act.put, setIfInBounds_toArray, set_cons_zero, set_cons_succ])
    refine lk47 (i := 24) (oi := ⟨some 34, .fieldAddr 40 (.tmp 33) 0, 0, "l12_prices.go:51", #[⟨23, .data⟩, ⟨19, .guard⟩], some (19, true)⟩) (v := undef) rfl (Or.inr ⟨by rfl, rfl⟩) ?_
    (try simp only [Act.put, setIfInBounds_toArray, set_cons_zero, set_cons_succ])
    refine lk47 (i := 25) (oi := ⟨some 35, .load 9 (.tmp 34), 9, "l12_prices.go:51", #[⟨24, .data⟩, ⟨19, .guard⟩], some (19, true)⟩) (v := undef) rfl (Or.inr ⟨by rfl, rfl⟩) ?_
    (try simp only [Act.put, setIfInBounds_toArray, set_cons_zero, set_cons_succ])
    refine lk47 (i := 26) (oi := ⟨some 36, .move (.tmp 0), 24, "l12_prices.go:51", #[⟨19, .guard⟩], some (19, true)⟩) (v := undef) rfl (Or.inr ⟨by rfl, rfl⟩) ?_
    (try simp only [Act.put, setIfInBounds_toArray, set_cons_zero, set_cons_succ])
    refine lk47 (i := 27) (oi := ⟨some 37, .move (.tmp 3), 3, "l12_prices.go:51", #[⟨19, .guard⟩], some (19, true)⟩) (v := undef) rfl (Or.inr ⟨by rfl, rfl⟩) ?_
    (try simp only [Act.put, setIfInBounds_toArray, set_cons_zero, set_cons_succ])
    refine lk47 (i := 28) (oi := ⟨some 38, .indexAddr 24 (.tmp 36) (.tmp 37), 0, "l12_prices.go:51", #[⟨26, .data⟩, ⟨27, .data⟩, ⟨19, .guard⟩], some (19, true)⟩) (v := undef) rfl (Or.inr ⟨by rfl, rfl⟩) ?_
    (try simp only [Act.put, setIfInBounds_toArray, set_cons_zero, set_cons_succ])
    refine lk47 (i := 29) (oi := ⟨some 39, .fieldAddr 40 (.tmp 38) 0, 0, "l12_prices.go:51", #[⟨28, .data⟩, ⟨19, .guard⟩], some (19, true)⟩) (v := undef) rfl (Or.inr ⟨by rfl, rfl⟩) ?_
    (try simp only [Act.put, setIfInBounds_toArray, set_cons_zero, set_cons_succ])
    refine lk47 (i := 30) (oi := ⟨some 40, .load 9 (.tmp 39), 9, "l12_prices.go:51", #[⟨29, .data⟩, ⟨19, .guard⟩], some (19, true)⟩) (v := undef) rfl (Or.inr ⟨by rfl, rfl⟩) ?_
    (try simp only [Act.put, setIfInBounds_toArray, set_cons_zero, set_cons_succ])
    refine lk47 (i := 31) (oi := ⟨some 41, .binOp .geq 9 (.tmp 35) (.tmp 40) 9, 4, "l12_prices.go:51", #[⟨25, .data⟩, ⟨30, .data⟩, ⟨19, .guard⟩], some (19, true)⟩) (v := undef) rfl (Or.inr ⟨by rfl, rfl⟩) ?_
    (try simp only [Act.put, setIfInBounds_toArray, set_cons_zero, set_cons_succ])
    refine lk47 (i := 32) (oi := ⟨some 42, .pick (.tmp 29) (.tmp 41) (.const (Value.bool false)), 4, "l12_prices.go:51", #[⟨19, .data⟩, ⟨31, .data⟩, ⟨16, .guard⟩], some (16, false)⟩) (v := undef) rfl (Or.inr ⟨by rfl, rfl⟩) ?_
    (try simp only [Act.put, setIfInBounds_toArray, set_cons_zero, set_cons_succ])
    refine lk47 (i := 33) (oi := ⟨some 43, .pick (.tmp 26) (.const (Value.bool true)) (.tmp 42), 4, "l12_prices.go:51", #[⟨16, .data⟩, ⟨32, .data⟩], none⟩) (v := ?_) rfl (Or.inl ⟨by rfl, ?_⟩) ?_
    rotate_left
    ·intro w hSw
     (try dsimp only at hSw)
     first | (go_simp; done) | (go_simp; with_reducible rfl)
    (try simp only [Act.put, setIfInBounds_toArray, set_cons_zero, set_cons_succ])
    refine wpAnyH_done (by kernel_rfl) ?_ _
    have HF := Lib.hid (HNo.out (HOk.out.trans HB.out))
    go_wp2
    go_ret
    exact ⟨by rw [HD.out, HF.out]; rfl, rfl, rfl, rfl, Nat.le_refl _, fun _ _ => rfl⟩
   have Hit := Lib.hid hit
   rcases hrg : inB x.qty 1 999 with _ | _
   ·have Hrg := Lib.hid hrg
    have HB : Hid (x.ok = false) := by show x.ok = false; unfold LnV.ok; rw [hrg, Bool.and_false]
    clear hrg hit
    have hS : (w.drewN m).drew.cell? ⟨b, off + k * 3, none⟩ = some (.string x.item) ∧ (w.drewN m).drew.cell? ⟨b, off + k * 3 + 1, none⟩ = some (.int .i64 x.qty) ∧ (w.drewN m).drew.cell? ⟨b, off + k * 3 + 2, none⟩ = some (.bool x.saved) := ⟨d0, d1, d2⟩
    go_wp2_with fail
    refine wp_region_held_drew (S := fun w' => w'.cell? ⟨b, off + k * 3, none⟩ = some (.string x.item) ∧ w'.cell? ⟨b, off + k * 3 + 1, none⟩ = some (.int .i64 x.qty) ∧ w'.cell? ⟨b, off + k * 3 + 2, none⟩ = some (.bool x.saved)) (by kernel_rfl) hS (fun hHeld => ?_)
    clear hHeld
    refine lk47 (i := 0) (oi := ⟨some 10, .move (.tmp 0), 24, "l12_prices.go:51", #[], none⟩) (v := ?_) rfl (Or.inl ⟨by rfl, ?_⟩) ?_
    rotate_left
    ·intro w hSw
     (try dsimp only at hSw)
     first | (go_simp; done) | (go_simp; with_reducible rfl)
    (try simp only [Act.put, setIfInBounds_toArray, set_cons_zero, set_cons_succ])
    refine lk47 (i := 1) (oi := ⟨some 11, .move (.tmp 3), 3, "l12_prices.go:51", #[], none⟩) (v := ?_) rfl (Or.inl ⟨by rfl, ?_⟩) ?_
    rotate_left
    ·intro w hSw
     (try dsimp only at hSw)
     first | (go_simp; done) | (go_simp; with_reducible rfl)
    (try simp only [Act.put, setIfInBounds_toArray, set_cons_zero, set_cons_succ])
    refine lk47 (i := 2) (oi := ⟨some 12, .indexAddr 24 (.tmp 10) (.tmp 11), 0, "l12_prices.go:51", #[⟨0, .data⟩, ⟨1, .data⟩], none⟩) (v := ?_) rfl (Or.inl ⟨by rfl, ?_⟩) ?_
    rotate_left
    ·intro w hSw
     (try dsimp only at hSw)
     first | (go_simp; done) | (go_simp; with_reducible rfl)
    (try simp only [Act.put, setIfInBounds_toArray, set_cons_zero, set_cons_succ])
    refine lk47 (i := 3) (oi := ⟨some 13, .fieldAddr 40 (.tmp 12) 0, 0, "l12_prices.go:51", #[⟨2, .data⟩], none⟩) (v := ?_) rfl (Or.inl ⟨by rfl, ?_⟩) ?_
    rotate_left
    ·intro w hSw
     (try dsimp only at hSw)
     first | (go_simp; done) | (go_simp; with_reducible rfl)
    (try simp only [Act.put, setIfInBounds_toArray, set_cons_zero, set_cons_succ])
    refine lk47 (i := 4) (oi := ⟨some 14, .load 9 (.tmp 13), 9, "l12_prices.go:51", #[⟨3, .data⟩], none⟩) (v := ?_) rfl (Or.inl ⟨by rfl, ?_⟩) ?_
    rotate_left
    ·intro w hSw
     (try dsimp only at hSw)
     first | (go_simp; done) | (go_simp; with_reducible rfl)
    (try simp only [Act.put, setIfInBounds_toArray, set_cons_zero, set_cons_succ])
    refine rk 5 rfl (fun K hK => ?_)
    go_simp
    go_at_call 33
    refine (l3Item x.item hio _).mono ?_
    rintro e w2 ⟨rfl, rfl⟩
    rw [Hit.out]
    refine hK.out _ _ hS (fun hHeld2 => ?_)
    clear hK K
    (try simp only [Act.put, setIfInBounds_toArray, set_cons_zero, set_cons_succ])
    refine lk47 (i := 6) (oi := ⟨some 16, .unOp .not 4 (.tmp 15), 4, "l12_prices.go:51", #[⟨5, .data⟩], none⟩) (v := ?_) rfl (Or.inl ⟨by rfl, ?_⟩) ?_
    rotate_left
    ·intro w hSw
     (try dsimp only at hSw)
     first | (go_simp; done) | (go_simp; with_reducible rfl)
    (try simp only [Act.put, setIfInBounds_toArray, set_cons_zero, set_cons_succ])
    refine lk47 (i := 7) (oi := ⟨some 17, .move (.tmp 16), 4, "l12_prices.go:51", #[⟨6, .data⟩, ⟨5, .chain⟩], none⟩) (v := ?_) rfl (Or.inl ⟨by rfl, ?_⟩) ?_
    rotate_left
    ·intro w hSw
     (try dsimp only at hSw)
     first | (go_simp; done) | (go_simp; with_reducible rfl)
    (try simp only [Act.put, setIfInBounds_toArray, set_cons_zero, set_cons_succ])
    refine lk47 (i := 8) (oi := ⟨some 18, .move (.tmp 0), 24, "l12_prices.go:51", #[⟨7, .guard⟩], some (7, false)⟩) (v := ?_) rfl (Or.inl ⟨by rfl, ?_⟩) ?_
    rotate_left
    ·intro w hSw
     (try dsimp only at hSw)
     first | (go_simp; done) | (go_simp; with_reducible rfl)
    (try simp only [Act.put, setIfInBounds_toArray, set_cons_zero, set_cons_succ])
    refine lk47 (i := 9) (oi := ⟨some 19, .move (.tmp 3), 3, "l12_prices.go:51", #[⟨7, .guard⟩], some (7, false)⟩) (v := ?_) rfl (Or.inl ⟨by rfl, ?_⟩) ?_
    rotate_left
    ·intro w hSw
     (try dsimp only at hSw)
     first | (go_simp; done) | (go_simp; with_reducible rfl)
    (try simp only [Act.put, setIfInBounds_toArray, set_cons_zero, set_cons_succ])
    refine lk47 (i := 10) (oi := ⟨some 20, .indexAddr 24 (.tmp 18) (.tmp 19), 0, "l12_prices.go:51", #[⟨8, .data⟩, ⟨9, .data⟩, ⟨7, .guard⟩], some (7, false)⟩) (v := ?_) rfl (Or.inl ⟨by rfl, ?_⟩) ?_
    rotate_left
    ·intro w hSw
     (try dsimp only at hSw)
     first | (go_simp; done) | (go_simp; with_reducible rfl)
    (try simp only [Act.put, setIfInBounds_toArray, set_cons_zero, set_cons_succ])
    refine lk47 (i := 11) (oi := ⟨some 21, .fieldAddr 40 (.tmp 20) 1, 0, "l12_prices.go:51", #[⟨10, .data⟩, ⟨7, .guard⟩], some (7, false)⟩) (v := ?_) rfl (Or.inl ⟨by rfl, ?_⟩) ?_
    rotate_left
    ·intro w hSw
     (try dsimp only at hSw)
     first | (go_simp; done) | (go_simp; with_reducible rfl)
    (try simp only [Act.put, setIfInBounds_toArray, set_cons_zero, set_cons_succ])
    refine lk47 (i := 12) (oi := ⟨some 22, .load 2 (.tmp 21), 2, "l12_prices.go:51", #[⟨11, .data⟩, ⟨7, .guard⟩], some (7, false)⟩) (v := ?_) rfl (Or.inl ⟨by rfl, ?_⟩) ?_
    rotate_left
    ·intro w hSw
     (try dsimp only at hSw)
     first | (go_simp; done) | (go_simp; with_reducible rfl)
    (try simp only [Act.put, setIfInBounds_toArray, set_cons_zero, set_cons_succ])
    refine rk 13 rfl (fun K hK => ?_)
    go_simp
    go_at_call 34
    refine (l1In x.qty 1 999 _).mono ?_
    rintro e w2 ⟨rfl, rfl⟩
    rw [Hrg.out]
    refine hK.out _ _ hS (fun hHeld3 => ?_)
    clear hK K
    (try simp only [Act.put, setIfInBounds_toArray, set_cons_zero, set_cons_succ])
    refine lk47 (i := 14) (oi := ⟨some 24, .unOp .not 4 (.tmp 23), 4, "l12_prices.go:51", #[⟨13, .data⟩, ⟨7, .guard⟩], some (7, false)⟩) (v := ?_) rfl (Or.inl ⟨by rfl, ?_⟩) ?_
    rotate_left
    ·intro w hSw
     (try dsimp only at hSw)
     first | (go_simp; done) | (go_simp; with_reducible rfl)
    (try simp only [Act.put, setIfInBounds_toArray, set_cons_zero, set_cons_succ])
    refine lk47 (i := 15) (oi := ⟨some 25, .pick (.tmp 17) (.const (Value.bool true)) (.tmp 24), 4, "l12_prices.go:51", #[⟨7, .data⟩, ⟨14, .data⟩], none⟩) (v := ?_) rfl (Or.inl ⟨by rfl, ?_⟩) ?_
    rotate_left
    ·intro w hSw
     (try dsimp only at hSw)
     first | (go_simp; done) | (go_simp; with_reducible rfl)
    (try simp only [Act.put, setIfInBounds_toArray, set_cons_zero, set_cons_succ])
    refine lk47 (i := 16) (oi := ⟨some 26, .move (.tmp 25), 4, "l12_prices.go:51", #[⟨15, .data⟩, ⟨13, .chain⟩], none⟩) (v := ?_) rfl (Or.inl ⟨by rfl, ?_⟩) ?_
    rotate_left
    ·intro w hSw
     (try dsimp only at hSw)
     first | (go_simp; done) | (go_simp; with_reducible rfl)
    (try simp only [Act.put, setIfInBounds_toArray, set_cons_zero, set_cons_succ])
    refine lk47 (i := 17) (oi := ⟨some 27, .move (.tmp 3), 3, "l12_prices.go:51", #[⟨16, .guard⟩], some (16, false)⟩) (v := undef) rfl (Or.inr ⟨by rfl, rfl⟩) ?_
    (try simp only [Act.put, setIfInBounds_toArray, set_cons_zero, set_cons_succ])
    refine lk47 (i := 18) (oi := ⟨some 28, .binOp .gtr 3 (.tmp 27) (.const (Value.int IntKind.i64 0)) 3, 4, "l12_prices.go:51", #[⟨17, .data⟩, ⟨16, .guard⟩], some (16, false)⟩) (v := undef) rfl (Or.inr ⟨by rfl, rfl⟩) ?_
    (try simp only [Act.put, setIfInBounds_toArray, set_cons_zero, set_cons_succ])
    refine lk47 (i := 19) (oi := ⟨some 29, .move (.tmp 28), 4, "l12_prices.go:51", #[⟨18, .data⟩, ⟨16, .chain⟩, ⟨16, .guard⟩], some (16, false)⟩) (v := undef) rfl (Or.inr ⟨by rfl, rfl⟩) ?_
    (try simp only [Act.put, setIfInBounds_toArray, set_cons_zero, set_cons_succ])
    refine lk47 (i := 20) (oi := ⟨some 30, .move (.tmp 0), 24, "l12_prices.go:51", #[⟨19, .guard⟩], some (19, true)⟩) (v := undef) rfl (Or.inr ⟨by rfl, rfl⟩) ?_
    (try simp only [Act.put, setIfInBounds_toArray, set_cons_zero, set_cons_succ])
    refine lk47 (i := 21) (oi := ⟨some 31, .move (.tmp 3), 3, "l12_prices.go:51", #[⟨19, .guard⟩], some (19, true)⟩) (v := undef) rfl (Or.inr ⟨by rfl, rfl⟩) ?_
    (try simp only [Act.put, setIfInBounds_toArray, set_cons_zero, set_cons_succ])
    refine lk47 (i := 22) (oi := ⟨some 32, .binOp .sub 3 (.tmp 31) (.const (Value.int IntKind.i64 1)) 3, 3, "l12_prices.go:51", #[⟨21, .data⟩, ⟨19, .guard⟩], some (19, true)⟩) (v := undef) rfl (Or.inr ⟨by rfl, rfl⟩) ?_
    (try simp only [Act.put, setIfInBounds_toArray, set_cons_zero, set_cons_succ])
    refine lk47 (i := 23) (oi := ⟨some 33, .indexAddr 24 (.tmp 30) (.tmp 32), 0, "l12_prices.go:51", #[⟨20, .data⟩, ⟨22, .data⟩, ⟨19, .guard⟩], some (19, true)⟩) (v := undef) rfl (Or.inr ⟨by rfl, rfl⟩) ?_
    (try simp only [Act.put, setIfInBounds_toArray, set_cons_zero, set_cons_succ])
    refine lk47 (i := 24) (oi := ⟨some 34, .fieldAddr 40 (.tmp 33) 0, 0, "l12_prices.go:51", #[⟨23, .data⟩, ⟨19, .guard⟩], some (19, true)⟩) (v := undef) rfl (Or.inr ⟨by rfl, rfl⟩) ?_
    (try simp only [Act.put, setIfInBounds_toArray, set_cons_zero, set_cons_succ])
    refine lk47 (i := 25) (oi := ⟨some 35, .load 9 (.tmp 34), 9, "l12_prices.go:51", #[⟨24, .data⟩, ⟨19, .guard⟩], some (19, true)⟩) (v := undef) rfl (Or.inr ⟨by rfl, rfl⟩) ?_
    (try simp only [Act.put, setIfInBounds_toArray, set_cons_zero, set_cons_succ])
    refine lk47 (i := 26) (oi := ⟨some 36, .move (.tmp 0), 24, "l12_prices.go:51", #[⟨19, .guard⟩], some (19, true)⟩) (v := undef) rfl (Or.inr ⟨by rfl, rfl⟩) ?_
    (try simp only [Act.put, setIfInBounds_toArray, set_cons_zero, set_cons_succ])
    refine lk47 (i := 27) (oi := ⟨some 37, .move (.tmp 3), 3, "l12_prices.go:51", #[⟨19, .guard⟩], some (19, true)⟩) (v := undef) rfl (Or.inr ⟨by rfl, rfl⟩) ?_
    (try simp only [Act.put, setIfInBounds_toArray, set_cons_zero, set_cons_succ])
    refine lk47 (i := 28) (oi := ⟨some 38, .indexAddr 24 (.tmp 36) (.tmp 37), 0, "l12_prices.go:51", #[⟨26, .data⟩, ⟨27, .data⟩, ⟨19, .guard⟩], some (19, true)⟩) (v := undef) rfl (Or.inr ⟨by rfl, rfl⟩) ?_
    (try simp only [Act.put, setIfInBounds_toArray, set_cons_zero, set_cons_succ])
    refine lk47 (i := 29) (oi := ⟨some 39, .fieldAddr 40 (.tmp 38) 0, 0, "l12_prices.go:51", #[⟨28, .data⟩, ⟨19, .guard⟩], some (19, true)⟩) (v := undef) rfl (Or.inr ⟨by rfl, rfl⟩) ?_
    (try simp only [Act.put, setIfInBounds_toArray, set_cons_zero, set_cons_succ])
    refine lk47 (i := 30) (oi := ⟨some 40, .load 9 (.tmp 39), 9, "l12_prices.go:51", #[⟨29, .data⟩, ⟨19, .guard⟩], some (19, true)⟩) (v := undef) rfl (Or.inr ⟨by rfl, rfl⟩) ?_
    (try simp only [Act.put, setIfInBounds_toArray, set_cons_zero, set_cons_succ])
    refine lk47 (i := 31) (oi := ⟨some 41, .binOp .geq 9 (.tmp 35) (.tmp 40) 9, 4, "l12_prices.go:51", #[⟨25, .data⟩, ⟨30, .data⟩, ⟨19, .guard⟩], some (19, true)⟩) (v := undef) rfl (Or.inr ⟨by rfl, rfl⟩) ?_
    (try simp only [Act.put, setIfInBounds_toArray, set_cons_zero, set_cons_succ])
    refine lk47 (i := 32) (oi := ⟨some 42, .pick (.tmp 29) (.tmp 41) (.const (Value.bool false)), 4, "l12_prices.go:51", #[⟨19, .data⟩, ⟨31, .data⟩, ⟨16, .guard⟩], some (16, false)⟩) (v := undef) rfl (Or.inr ⟨by rfl, rfl⟩) ?_
    (try simp only [Act.put, setIfInBounds_toArray, set_cons_zero, set_cons_succ])
    refine lk47 (i := 33) (oi := ⟨some 43, .pick (.tmp 26) (.const (Value.bool true)) (.tmp 42), 4, "l12_prices.go:51", #[⟨16, .data⟩, ⟨32, .data⟩], none⟩) (v := ?_) rfl (Or.inl ⟨by rfl, ?_⟩) ?_
    rotate_left
    ·intro w hSw
     (try dsimp only at hSw)
     first | (go_simp; done) | (go_simp; with_reducible rfl)
    (try simp only [Act.put, setIfInBounds_toArray, set_cons_zero, set_cons_succ])
    refine wpAnyH_done (by kernel_rfl) ?_ _
    have HF := Lib.hid (HNo.out (HOk.out.trans HB.out))
    go_wp2
    go_ret
    exact ⟨by rw [HD.out, HF.out]; rfl, rfl, rfl, rfl, Nat.le_refl _, fun _ _ => rfl⟩
   have Hrg := Lib.hid hrg
   have HOy : Lnok l k = true := HOk.out.trans (by show x.ok = true; unfold LnV.ok; rw [hit, hrg]; rfl)
   have HOY := Lib.hid HOy
   clear hit hrg HOy
   have hS : (w.drewN m).drew.cell? ⟨b, off + k * 3, none⟩ = some (.string x.item) ∧ (w.drewN m).drew.cell? ⟨b, off + k * 3 + 1, none⟩ = some (.int .i64 x.qty) ∧ (w.drewN m).drew.cell? ⟨b, off + k * 3 + 2, none⟩ = some (.bool x.saved) := ⟨d0, d1, d2⟩
   go_wp2_with fail
   refine wp_region_held_drew (S := fun w' => w'.cell? ⟨b, off + k * 3, none⟩ = some (.string x.item) ∧ w'.cell? ⟨b, off + k * 3 + 1, none⟩ = some (.int .i64 x.qty) ∧ w'.cell? ⟨b, off + k * 3 + 2, none⟩ = some (.bool x.saved)) (by kernel_rfl) hS (fun hHeld => ?_)
   clear hHeld
   refine lk47 (i := 0) (oi := ⟨some 10, .move (.tmp 0), 24, "l12_prices.go:51", #[], none⟩) (v := ?_) rfl (Or.inl ⟨by rfl, ?_⟩) ?_
   rotate_left
   ·intro w hSw
    (try dsimp only at hSw)
    first | (go_simp; done) | (go_simp; with_reducible rfl)
   (try simp only [Act.put, setIfInBounds_toArray, set_cons_zero, set_cons_succ])
   refine lk47 (i := 1) (oi := ⟨some 11, .move (.tmp 3), 3, "l12_prices.go:51", #[], none⟩) (v := ?_) rfl (Or.inl ⟨by rfl, ?_⟩) ?_
   rotate_left
   ·intro w hSw
    (try dsimp only at hSw)
    first | (go_simp; done) | (go_simp; with_reducible rfl)
   (try simp only [Act.put, setIfInBounds_toArray, set_cons_zero, set_cons_succ])
   refine lk47 (i := 2) (oi := ⟨some 12, .indexAddr 24 (.tmp 10) (.tmp 11), 0, "l12_prices.go:51", #[⟨0, .data⟩, ⟨1, .data⟩], none⟩) (v := ?_) rfl (Or.inl ⟨by rfl, ?_⟩) ?_
   rotate_left
   ·intro w hSw
    (try dsimp only at hSw)
    first | (go_simp; done) | (go_simp; with_reducible rfl)
   (try simp only [Act.put, setIfInBounds_toArray, set_cons_zero, set_cons_succ])
   refine lk47 (i := 3) (oi := ⟨some 13, .fieldAddr 40 (.tmp 12) 0, 0, "l12_prices.go:51", #[⟨2, .data⟩], none⟩) (v := ?_) rfl (Or.inl ⟨by rfl, ?_⟩) ?_
   rotate_left
   ·intro w hSw
    (try dsimp only at hSw)
    first | (go_simp; done) | (go_simp; with_reducible rfl)
   (try simp only [Act.put, setIfInBounds_toArray, set_cons_zero, set_cons_succ])
   refine lk47 (i := 4) (oi := ⟨some 14, .load 9 (.tmp 13), 9, "l12_prices.go:51", #[⟨3, .data⟩], none⟩) (v := ?_) rfl (Or.inl ⟨by rfl, ?_⟩) ?_
   rotate_left
   ·intro w hSw
    (try dsimp only at hSw)
    first | (go_simp; done) | (go_simp; with_reducible rfl)
   (try simp only [Act.put, setIfInBounds_toArray, set_cons_zero, set_cons_succ])
   refine rk 5 rfl (fun K hK => ?_)
   go_simp
   go_at_call 33
   refine (l3Item x.item hio _).mono ?_
   rintro e w2 ⟨rfl, rfl⟩
   rw [Hit.out]
   refine hK.out _ _ hS (fun hHeld2 => ?_)
   clear hK K
   (try simp only [Act.put, setIfInBounds_toArray, set_cons_zero, set_cons_succ])
   refine lk47 (i := 6) (oi := ⟨some 16, .unOp .not 4 (.tmp 15), 4, "l12_prices.go:51", #[⟨5, .data⟩], none⟩) (v := ?_) rfl (Or.inl ⟨by rfl, ?_⟩) ?_
   rotate_left
   ·intro w hSw
    (try dsimp only at hSw)
    first | (go_simp; done) | (go_simp; with_reducible rfl)
   (try simp only [Act.put, setIfInBounds_toArray, set_cons_zero, set_cons_succ])
   refine lk47 (i := 7) (oi := ⟨some 17, .move (.tmp 16), 4, "l12_prices.go:51", #[⟨6, .data⟩, ⟨5, .chain⟩], none⟩) (v := ?_) rfl (Or.inl ⟨by rfl, ?_⟩) ?_
   rotate_left
   ·intro w hSw
    (try dsimp only at hSw)
    first | (go_simp; done) | (go_simp; with_reducible rfl)
   (try simp only [Act.put, setIfInBounds_toArray, set_cons_zero, set_cons_succ])
   refine lk47 (i := 8) (oi := ⟨some 18, .move (.tmp 0), 24, "l12_prices.go:51", #[⟨7, .guard⟩], some (7, false)⟩) (v := ?_) rfl (Or.inl ⟨by rfl, ?_⟩) ?_
   rotate_left
   ·intro w hSw
    (try dsimp only at hSw)
    first | (go_simp; done) | (go_simp; with_reducible rfl)
   (try simp only [Act.put, setIfInBounds_toArray, set_cons_zero, set_cons_succ])
   refine lk47 (i := 9) (oi := ⟨some 19, .move (.tmp 3), 3, "l12_prices.go:51", #[⟨7, .guard⟩], some (7, false)⟩) (v := ?_) rfl (Or.inl ⟨by rfl, ?_⟩) ?_
   rotate_left
   ·intro w hSw
    (try dsimp only at hSw)
    first | (go_simp; done) | (go_simp; with_reducible rfl)
   (try simp only [Act.put, setIfInBounds_toArray, set_cons_zero, set_cons_succ])
   refine lk47 (i := 10) (oi := ⟨some 20, .indexAddr 24 (.tmp 18) (.tmp 19), 0, "l12_prices.go:51", #[⟨8, .data⟩, ⟨9, .data⟩, ⟨7, .guard⟩], some (7, false)⟩) (v := ?_) rfl (Or.inl ⟨by rfl, ?_⟩) ?_
   rotate_left
   ·intro w hSw
    (try dsimp only at hSw)
    first | (go_simp; done) | (go_simp; with_reducible rfl)
   (try simp only [Act.put, setIfInBounds_toArray, set_cons_zero, set_cons_succ])
   refine lk47 (i := 11) (oi := ⟨some 21, .fieldAddr 40 (.tmp 20) 1, 0, "l12_prices.go:51", #[⟨10, .data⟩, ⟨7, .guard⟩], some (7, false)⟩) (v := ?_) rfl (Or.inl ⟨by rfl, ?_⟩) ?_
   rotate_left
   ·intro w hSw
    (try dsimp only at hSw)
    first | (go_simp; done) | (go_simp; with_reducible rfl)
   (try simp only [Act.put, setIfInBounds_toArray, set_cons_zero, set_cons_succ])
   refine lk47 (i := 12) (oi := ⟨some 22, .load 2 (.tmp 21), 2, "l12_prices.go:51", #[⟨11, .data⟩, ⟨7, .guard⟩], some (7, false)⟩) (v := ?_) rfl (Or.inl ⟨by rfl, ?_⟩) ?_
   rotate_left
   ·intro w hSw
    (try dsimp only at hSw)
    first | (go_simp; done) | (go_simp; with_reducible rfl)
   (try simp only [Act.put, setIfInBounds_toArray, set_cons_zero, set_cons_succ])
   refine rk 13 rfl (fun K hK => ?_)
   go_simp
   go_at_call 34
   refine (l1In x.qty 1 999 _).mono ?_
   rintro e w2 ⟨rfl, rfl⟩
   rw [Hrg.out]
   refine hK.out _ _ hS (fun hHeld3 => ?_)
   clear hK K
   (try simp only [Act.put, setIfInBounds_toArray, set_cons_zero, set_cons_succ])
   refine lk47 (i := 14) (oi := ⟨some 24, .unOp .not 4 (.tmp 23), 4, "l12_prices.go:51", #[⟨13, .data⟩, ⟨7, .guard⟩], some (7, false)⟩) (v := ?_) rfl (Or.inl ⟨by rfl, ?_⟩) ?_
   rotate_left
   ·intro w hSw
    (try dsimp only at hSw)
    first | (go_simp; done) | (go_simp; with_reducible rfl)
   (try simp only [Act.put, setIfInBounds_toArray, set_cons_zero, set_cons_succ])
   refine lk47 (i := 15) (oi := ⟨some 25, .pick (.tmp 17) (.const (Value.bool true)) (.tmp 24), 4, "l12_prices.go:51", #[⟨7, .data⟩, ⟨14, .data⟩], none⟩) (v := ?_) rfl (Or.inl ⟨by rfl, ?_⟩) ?_
   rotate_left
   ·intro w hSw
    (try dsimp only at hSw)
    first | (go_simp; done) | (go_simp; with_reducible rfl)
   (try simp only [Act.put, setIfInBounds_toArray, set_cons_zero, set_cons_succ])
   refine lk47 (i := 16) (oi := ⟨some 26, .move (.tmp 25), 4, "l12_prices.go:51", #[⟨15, .data⟩, ⟨13, .chain⟩], none⟩) (v := ?_) rfl (Or.inl ⟨by rfl, ?_⟩) ?_
   rotate_left
   ·intro w hSw
    (try dsimp only at hSw)
    first | (go_simp; done) | (go_simp; with_reducible rfl)
   (try simp only [Act.put, setIfInBounds_toArray, set_cons_zero, set_cons_succ])
   refine lk47 (i := 17) (oi := ⟨some 27, .move (.tmp 3), 3, "l12_prices.go:51", #[⟨16, .guard⟩], some (16, false)⟩) (v := ?_) rfl (Or.inl ⟨by rfl, ?_⟩) ?_
   rotate_left
   ·intro w hSw
    (try dsimp only at hSw)
    first | (go_simp; done) | (go_simp; with_reducible rfl)
   (try simp only [Act.put, setIfInBounds_toArray, set_cons_zero, set_cons_succ])
   refine lk47 (i := 18) (oi := ⟨some 28, .binOp .gtr 3 (.tmp 27) (.const (Value.int IntKind.i64 0)) 3, 4, "l12_prices.go:51", #[⟨17, .data⟩, ⟨16, .guard⟩], some (16, false)⟩) (v := ?_) rfl (Or.inl ⟨by rfl, ?_⟩) ?_
   rotate_left
   ·intro w hSw
    (try dsimp only at hSw)
    first | (go_simp; done) | (go_simp; with_reducible rfl)
   (try simp only [Act.put, setIfInBounds_toArray, set_cons_zero, set_cons_succ])
   refine lk47 (i := 19) (oi := ⟨some 29, .move (.tmp 28), 4, "l12_prices.go:51", #[⟨18, .data⟩, ⟨16, .chain⟩, ⟨16, .guard⟩], some (16, false)⟩) (v := ?_) rfl (Or.inl ⟨by rfl, ?_⟩) ?_
   rotate_left
   ·intro w hSw
    (try dsimp only at hSw)
    first | (go_simp; done) | (go_simp; with_reducible rfl)
   (try simp only [Act.put, setIfInBounds_toArray, set_cons_zero, set_cons_succ])
   refine lk47 (i := 20) (oi := ⟨some 30, .move (.tmp 0), 24, "l12_prices.go:51", #[⟨19, .guard⟩], some (19, true)⟩) (v := undef) rfl (Or.inr ⟨by rfl, rfl⟩) ?_
   (try simp only [Act.put, setIfInBounds_toArray, set_cons_zero, set_cons_succ])
   refine lk47 (i := 21) (oi := ⟨some 31, .move (.tmp 3), 3, "l12_prices.go:51", #[⟨19, .guard⟩], some (19, true)⟩) (v := undef) rfl (Or.inr ⟨by rfl, rfl⟩) ?_
   (try simp only [Act.put, setIfInBounds_toArray, set_cons_zero, set_cons_succ])
   refine lk47 (i := 22) (oi := ⟨some 32, .binOp .sub 3 (.tmp 31) (.const (Value.int IntKind.i64 1)) 3, 3, "l12_prices.go:51", #[⟨21, .data⟩, ⟨19, .guard⟩], some (19, true)⟩) (v := undef) rfl (Or.inr ⟨by rfl, rfl⟩) ?_
   (try simp only [Act.put, setIfInBounds_toArray, set_cons_zero, set_cons_succ])
   refine lk47 (i := 23) (oi := ⟨some 33, .indexAddr 24 (.tmp 30) (.tmp 32), 0, "l12_prices.go:51", #[⟨20, .data⟩, ⟨22, .data⟩, ⟨19, .guard⟩], some (19, true)⟩) (v := undef) rfl (Or.inr ⟨by rfl, rfl⟩) ?_
   (try simp only [Act.put, setIfInBounds_toArray, set_cons_zero, set_cons_succ])
   refine lk47 (i := 24) (oi := ⟨some 34, .fieldAddr 40 (.tmp 33) 0, 0, "l12_prices.go:51", #[⟨23, .data⟩, ⟨19, .guard⟩], some (19, true)⟩) (v := undef) rfl (Or.inr ⟨by rfl, rfl⟩) ?_
   (try simp only [Act.put, setIfInBounds_toArray, set_cons_zero, set_cons_succ])
   refine lk47 (i := 25) (oi := ⟨some 35, .load 9 (.tmp 34), 9, "l12_prices.go:51", #[⟨24, .data⟩, ⟨19, .guard⟩], some (19, true)⟩) (v := undef) rfl (Or.inr ⟨by rfl, rfl⟩) ?_
   (try simp only [Act.put, setIfInBounds_toArray, set_cons_zero, set_cons_succ])
   refine lk47 (i := 26) (oi := ⟨some 36, .move (.tmp 0), 24, "l12_prices.go:51", #[⟨19, .guard⟩], some (19, true)⟩) (v := undef) rfl (Or.inr ⟨by rfl, rfl⟩) ?_
   (try simp only [Act.put, setIfInBounds_toArray, set_cons_zero, set_cons_succ])
   refine lk47 (i := 27) (oi := ⟨some 37, .move (.tmp 3), 3, "l12_prices.go:51", #[⟨19, .guard⟩], some (19, true)⟩) (v := undef) rfl (Or.inr ⟨by rfl, rfl⟩) ?_
   (try simp only [Act.put, setIfInBounds_toArray, set_cons_zero, set_cons_succ])
   refine lk47 (i := 28) (oi := ⟨some 38, .indexAddr 24 (.tmp 36) (.tmp 37), 0, "l12_prices.go:51", #[⟨26, .data⟩, ⟨27, .data⟩, ⟨19, .guard⟩], some (19, true)⟩) (v := undef) rfl (Or.inr ⟨by rfl, rfl⟩) ?_
   (try simp only [Act.put, setIfInBounds_toArray, set_cons_zero, set_cons_succ])
   refine lk47 (i := 29) (oi := ⟨some 39, .fieldAddr 40 (.tmp 38) 0, 0, "l12_prices.go:51", #[⟨28, .data⟩, ⟨19, .guard⟩], some (19, true)⟩) (v := undef) rfl (Or.inr ⟨by rfl, rfl⟩) ?_
   (try simp only [Act.put, setIfInBounds_toArray, set_cons_zero, set_cons_succ])
   refine lk47 (i := 30) (oi := ⟨some 40, .load 9 (.tmp 39), 9, "l12_prices.go:51", #[⟨29, .data⟩, ⟨19, .guard⟩], some (19, true)⟩) (v := undef) rfl (Or.inr ⟨by rfl, rfl⟩) ?_
   (try simp only [Act.put, setIfInBounds_toArray, set_cons_zero, set_cons_succ])
   refine lk47 (i := 31) (oi := ⟨some 41, .binOp .geq 9 (.tmp 35) (.tmp 40) 9, 4, "l12_prices.go:51", #[⟨25, .data⟩, ⟨30, .data⟩, ⟨19, .guard⟩], some (19, true)⟩) (v := undef) rfl (Or.inr ⟨by rfl, rfl⟩) ?_
   (try simp only [Act.put, setIfInBounds_toArray, set_cons_zero, set_cons_succ])
   refine lk47 (i := 32) (oi := ⟨some 42, .pick (.tmp 29) (.tmp 41) (.const (Value.bool false)), 4, "l12_prices.go:51", #[⟨19, .data⟩, ⟨31, .data⟩, ⟨16, .guard⟩], some (16, false)⟩) (v := ?_) rfl (Or.inl ⟨by rfl, ?_⟩) ?_
   rotate_left
   ·intro w hSw
    (try dsimp only at hSw)
    first | (go_simp; done) | (go_simp; with_reducible rfl)
   (try simp only [Act.put, setIfInBounds_toArray, set_cons_zero, set_cons_succ])
   refine lk47 (i := 33) (oi := ⟨some 43, .pick (.tmp 26) (.const (Value.bool true)) (.tmp 42), 4, "l12_prices.go:51", #[⟨16, .data⟩, ⟨32, .data⟩], none⟩) (v := ?_) rfl (Or.inl ⟨by rfl, ?_⟩) ?_
   rotate_left
   ·intro w hSw
    (try dsimp only at hSw)
    first | (go_simp; done) | (go_simp; with_reducible rfl)
   (try simp only [Act.put, setIfInBounds_toArray, set_cons_zero, set_cons_succ])
   refine wpAnyH_done (by kernel_rfl) ?_ _
   have HIy : Lninc l k = true := by show (decide (k = 0) || _) = true; rw [decide_eq_true HZ.out]; rfl
   have HOy := HOY.out
   have HIY := Lib.hid HIy
   clear HIy HOy
   have HA := Lib.hid (HSo.out HOY.out)
   have HBb := Lib.hid (HSi.out HIY.out)
   go_wp2
   go_roundw
   case rel => exact ⟨k + 1, m + 1, by omega, by go_num, by rfl, HA, HBb⟩
   case measure => simp [intOf]; omega
  have hzi : decide (0 < k) = true := decide_eq_true (by omega)
  obtain ⟨j, hj⟩ : ∃ j, k = j + 1 := ⟨k - 1, by omega⟩
  obtain ⟨b', off', hao', _, hop⟩ := H.out.2 j (by omega)
  have e := hao.symm.trans hao'
  injection e with e
  injection e with e1 e2
  subst e1 e2 hao
  have hop' : LnAt (w.drewN m).drew b (off + j * 3) (atLn l j) := hop.kept (w' := (w.drewN m).drew) rfl
  clear hop hao'
  have HIk : Hid (Lninc l k = ltS (atLn l j).item (atLn l k).item) := by subst hj; rfl
  have im : IntKind.i64.wrap ((k : Int) - 1) = (j : Int) := (IntWalk.i64_in _ (by omega)).trans (by omega)
  have i1 : (j : Int) < (n : Int) := by omega
  have i0 : (0 : Int) ≤ (j : Int) := by omega
  generalize atLn l k = x at hio HOk HIk ho'
  generalize atLn l j = z at HIk hop'
  obtain ⟨d0, d1, d2⟩ := ho'
  obtain ⟨e0, _⟩ := hop'
  clear hj
  rcases hit : itemB x.item with _ | _
  ·have Hit := Lib.hid hit
   have HB : Hid (x.ok = false) := by show x.ok = false; unfold LnV.ok; rw [hit]; rfl
   clear hit
   have hS : (w.drewN m).drew.cell? ⟨b, off + k * 3, none⟩ = some (.string x.item) ∧ (w.drewN m).drew.cell? ⟨b, off + k * 3 + 1, none⟩ = some (.int .i64 x.qty) ∧ (w.drewN m).drew.cell? ⟨b, off + k * 3 + 2, none⟩ = some (.bool x.saved) ∧ (w.drewN m).drew.cell? ⟨b, off + j * 3, none⟩ = some (.string z.item) := ⟨d0, d1, d2, e0⟩
   go_wp2_with fail
   refine wp_region_held_drew (S := fun w' => w'.cell? ⟨b, off + k * 3, none⟩ = some (.string x.item) ∧ w'.cell? ⟨b, off + k * 3 + 1, none⟩ = some (.int .i64 x.qty) ∧ w'.cell? ⟨b, off + k * 3 + 2, none⟩ = some (.bool x.saved) ∧ w'.cell? ⟨b, off + j * 3, none⟩ = some (.string z.item)) (by kernel_rfl) hS (fun hHeld => ?_)
   clear hHeld
   refine lk47 (i := 0) (oi := ⟨some 10, .move (.tmp 0), 24, "l12_prices.go:51", #[], none⟩) (v := ?_) rfl (Or.inl ⟨by rfl, ?_⟩) ?_
   rotate_left
   ·intro w hSw
    (try dsimp only at hSw)
    first | (go_simp; done) | (go_simp; with_reducible rfl)
   (try simp only [Act.put, setIfInBounds_toArray, set_cons_zero, set_cons_succ])
   refine lk47 (i := 1) (oi := ⟨some 11, .move (.tmp 3), 3, "l12_prices.go:51", #[], none⟩) (v := ?_) rfl (Or.inl ⟨by rfl, ?_⟩) ?_
   rotate_left
   ·intro w hSw
    (try dsimp only at hSw)
    first | (go_simp; done) | (go_simp; with_reducible rfl)
   (try simp only [Act.put, setIfInBounds_toArray, set_cons_zero, set_cons_succ])
   refine lk47 (i := 2) (oi := ⟨some 12, .indexAddr 24 (.tmp 10) (.tmp 11), 0, "l12_prices.go:51", #[⟨0, .data⟩, ⟨1, .data⟩], none⟩) (v := ?_) rfl (Or.inl ⟨by rfl, ?_⟩) ?_
   rotate_left
   ·intro w hSw
    (try dsimp only at hSw)
    first | (go_simp; done) | (go_simp; with_reducible rfl)
   (try simp only [Act.put, setIfInBounds_toArray, set_cons_zero, set_cons_succ])
   refine lk47 (i := 3) (oi := ⟨some 13, .fieldAddr 40 (.tmp 12) 0, 0, "l12_prices.go:51", #[⟨2, .data⟩], none⟩) (v := ?_) rfl (Or.inl ⟨by rfl, ?_⟩) ?_
   rotate_left
   ·intro w hSw
    (try dsimp only at hSw)
    first | (go_simp; done) | (go_simp; with_reducible rfl)
   (try simp only [Act.put, setIfInBounds_toArray, set_cons_zero, set_cons_succ])
   refine lk47 (i := 4) (oi := ⟨some 14, .load 9 (.tmp 13), 9, "l12_prices.go:51", #[⟨3, .data⟩], none⟩) (v := ?_) rfl (Or.inl ⟨by rfl, ?_⟩) ?_
   rotate_left
   ·intro w hSw
    (try dsimp only at hSw)
    first | (go_simp; done) | (go_simp; with_reducible rfl)
   (try simp only [Act.put, setIfInBounds_toArray, set_cons_zero, set_cons_succ])
   refine rk 5 rfl (fun K hK => ?_)
   go_simp
   go_at_call 33
   refine (l3Item x.item hio _).mono ?_
   rintro e w2 ⟨rfl, rfl⟩
   rw [Hit.out]
   refine hK.out _ _ hS (fun hHeld2 => ?_)
   clear hK K
   (try simp only [Act.put, setIfInBounds_toArray, set_cons_zero, set_cons_succ])
   refine lk47 (i := 6) (oi := ⟨some 16, .unOp .not 4 (.tmp 15), 4, "l12_prices.go:51", #[⟨5, .data⟩], none⟩) (v := ?_) rfl (Or.inl ⟨by rfl, ?_⟩) ?_
   rotate_left
   ·intro w hSw
    (try dsimp only at hSw)
    first | (go_simp; done) | (go_simp; with_reducible rfl)
   (try simp only [Act.put, setIfInBounds_toArray, set_cons_zero, set_cons_succ])
   refine lk47 (i := 7) (oi := ⟨some 17, .move (.tmp 16), 4, "l12_prices.go:51", #[⟨6, .data⟩, ⟨5, .chain⟩], none⟩) (v := ?_) rfl (Or.inl ⟨by rfl, ?_⟩) ?_
   rotate_left
   ·intro w hSw
    (try dsimp only at hSw)
    first | (go_simp; done) | (go_simp; with_reducible rfl)
   (try simp only [Act.put, setIfInBounds_toArray, set_cons_zero, set_cons_succ])
   refine lk47 (i := 8) (oi := ⟨some 18, .move (.tmp 0), 24, "l12_prices.go:51", #[⟨7, .guard⟩], some (7, false)⟩) (v := undef) rfl (Or.inr ⟨by rfl, rfl⟩) ?_
   (try simp only [Act.put, setIfInBounds_toArray, set_cons_zero, set_cons_succ])
   refine lk47 (i := 9) (oi := ⟨some 19, .move (.tmp 3), 3, "l12_prices.go:51", #[⟨7, .guard⟩], some (7, false)⟩) (v := undef) rfl (Or.inr ⟨by rfl, rfl⟩) ?_
   (try simp only [Act.put, setIfInBounds_toArray, set_cons_zero, set_cons_succ])
   refine lk47 (i := 10) (oi := ⟨some 20, .indexAddr 24 (.tmp 18) (.tmp 19), 0, "l12_prices.go:51", #[⟨8, .data⟩, ⟨9, .data⟩, ⟨7, .guard⟩], some (7, false)⟩) (v := undef) rfl (Or.inr ⟨by rfl, rfl⟩) ?_
   (try simp only [Act.put, setIfInBounds_toArray, set_cons_zero, set_cons_succ])
   refine lk47 (i := 11) (oi := ⟨some 21, .fieldAddr 40 (.tmp 20) 1, 0, "l12_prices.go:51", #[⟨10, .data⟩, ⟨7, .guard⟩], some (7, false)⟩) (v := undef) rfl (Or.inr ⟨by rfl, rfl⟩) ?_
   (try simp only [Act.put, setIfInBounds_toArray, set_cons_zero, set_cons_succ])
   refine lk47 (i := 12) (oi := ⟨some 22, .load 2 (.tmp 21), 2, "l12_prices.go:51", #[⟨11, .data⟩, ⟨7, .guard⟩], some (7, false)⟩) (v := undef) rfl (Or.inr ⟨by rfl, rfl⟩) ?_
   (try simp only [Act.put, setIfInBounds_toArray, set_cons_zero, set_cons_succ])
   refine lk47 (i := 13) (oi := ⟨some 23, .call ⟨.value (.func 34), #[.tmp 22, .const (Value.int IntKind.i64 1), .const (Value.int IntKind.i64 999)], #[2, 2, 2]⟩, 4, "l12_prices.go:51", #[⟨12, .data⟩, ⟨7, .chain⟩, ⟨7, .guard⟩], some (7, false)⟩) (v := undef) rfl (Or.inr ⟨by rfl, rfl⟩) ?_
   (try simp only [Act.put, setIfInBounds_toArray, set_cons_zero, set_cons_succ])
   refine lk47 (i := 14) (oi := ⟨some 24, .unOp .not 4 (.tmp 23), 4, "l12_prices.go:51", #[⟨13, .data⟩, ⟨7, .guard⟩], some (7, false)⟩) (v := undef) rfl (Or.inr ⟨by rfl, rfl⟩) ?_
   (try simp only [Act.put, setIfInBounds_toArray, set_cons_zero, set_cons_succ])
   refine lk47 (i := 15) (oi := ⟨some 25, .pick (.tmp 17) (.const (Value.bool true)) (.tmp 24), 4, "l12_prices.go:51", #[⟨7, .data⟩, ⟨14, .data⟩], none⟩) (v := ?_) rfl (Or.inl ⟨by rfl, ?_⟩) ?_
   rotate_left
   ·intro w hSw
    (try dsimp only at hSw)
    first | (go_simp; done) | (go_simp; with_reducible rfl)
   (try simp only [Act.put, setIfInBounds_toArray, set_cons_zero, set_cons_succ])
   refine lk47 (i := 16) (oi := ⟨some 26, .move (.tmp 25), 4, "l12_prices.go:51", #[⟨15, .data⟩, ⟨13, .chain⟩], none⟩) (v := ?_) rfl (Or.inl ⟨by rfl, ?_⟩) ?_
   rotate_left
   ·intro w hSw
    (try dsimp only at hSw)
    first | (go_simp; done) | (go_simp; with_reducible rfl)
   (try simp only [Act.put, setIfInBounds_toArray, set_cons_zero, set_cons_succ])
   refine lk47 (i := 17) (oi := ⟨some 27, .move (.tmp 3), 3, "l12_prices.go:51", #[⟨16, .guard⟩], some (16, false)⟩) (v := undef) rfl (Or.inr ⟨by rfl, rfl⟩) ?_
   (try simp only [Act.put, setIfInBounds_toArray, set_cons_zero, set_cons_succ])
   refine lk47 (i := 18) (oi := ⟨some 28, .binOp .gtr 3 (.tmp 27) (.const (Value.int IntKind.i64 0)) 3, 4, "l12_prices.go:51", #[⟨17, .data⟩, ⟨16, .guard⟩], some (16, false)⟩) (v := undef) rfl (Or.inr ⟨by rfl, rfl⟩) ?_
   (try simp only [Act.put, setIfInBounds_toArray, set_cons_zero, set_cons_succ])
   refine lk47 (i := 19) (oi := ⟨some 29, .move (.tmp 28), 4, "l12_prices.go:51", #[⟨18, .data⟩, ⟨16, .chain⟩, ⟨16, .guard⟩], some (16, false)⟩) (v := undef) rfl (Or.inr ⟨by rfl, rfl⟩) ?_
   (try simp only [Act.put, setIfInBounds_toArray, set_cons_zero, set_cons_succ])
   refine lk47 (i := 20) (oi := ⟨some 30, .move (.tmp 0), 24, "l12_prices.go:51", #[⟨19, .guard⟩], some (19, true)⟩) (v := undef) rfl (Or.inr ⟨by rfl, rfl⟩) ?_
   (try simp only [Act.put, setIfInBounds_toArray, set_cons_zero, set_cons_succ])
   refine lk47 (i := 21) (oi := ⟨some 31, .move (.tmp 3), 3, "l12_prices.go:51", #[⟨19, .guard⟩], some (19, true)⟩) (v := undef) rfl (Or.inr ⟨by rfl, rfl⟩) ?_
   (try simp only [Act.put, setIfInBounds_toArray, set_cons_zero, set_cons_succ])
   refine lk47 (i := 22) (oi := ⟨some 32, .binOp .sub 3 (.tmp 31) (.const (Value.int IntKind.i64 1)) 3, 3, "l12_prices.go:51", #[⟨21, .data⟩, ⟨19, .guard⟩], some (19, true)⟩) (v := undef) rfl (Or.inr ⟨by rfl, rfl⟩) ?_
   (try simp only [Act.put, setIfInBounds_toArray, set_cons_zero, set_cons_succ])
   refine lk47 (i := 23) (oi := ⟨some 33, .indexAddr 24 (.tmp 30) (.tmp 32), 0, "l12_prices.go:51", #[⟨20, .data⟩, ⟨22, .data⟩, ⟨19, .guard⟩], some (19, true)⟩) (v := undef) rfl (Or.inr ⟨by rfl, rfl⟩) ?_
   (try simp only [Act.put, setIfInBounds_toArray, set_cons_zero, set_cons_succ])
   refine lk47 (i := 24) (oi := ⟨some 34, .fieldAddr 40 (.tmp 33) 0, 0, "l12_prices.go:51", #[⟨23, .data⟩, ⟨19, .guard⟩], some (19, true)⟩) (v := undef) rfl (Or.inr ⟨by rfl, rfl⟩) ?_
   (try simp only [Act.put, setIfInBounds_toArray, set_cons_zero, set_cons_succ])
   refine lk47 (i := 25) (oi := ⟨some 35, .load 9 (.tmp 34), 9, "l12_prices.go:51", #[⟨24, .data⟩, ⟨19, .guard⟩], some (19, true)⟩) (v := undef) rfl (Or.inr ⟨by rfl, rfl⟩) ?_
   (try simp only [Act.put, setIfInBounds_toArray, set_cons_zero, set_cons_succ])
   refine lk47 (i := 26) (oi := ⟨some 36, .move (.tmp 0), 24, "l12_prices.go:51", #[⟨19, .guard⟩], some (19, true)⟩) (v := undef) rfl (Or.inr ⟨by rfl, rfl⟩) ?_
   (try simp only [Act.put, setIfInBounds_toArray, set_cons_zero, set_cons_succ])
   refine lk47 (i := 27) (oi := ⟨some 37, .move (.tmp 3), 3, "l12_prices.go:51", #[⟨19, .guard⟩], some (19, true)⟩) (v := undef) rfl (Or.inr ⟨by rfl, rfl⟩) ?_
   (try simp only [Act.put, setIfInBounds_toArray, set_cons_zero, set_cons_succ])
   refine lk47 (i := 28) (oi := ⟨some 38, .indexAddr 24 (.tmp 36) (.tmp 37), 0, "l12_prices.go:51", #[⟨26, .data⟩, ⟨27, .data⟩, ⟨19, .guard⟩], some (19, true)⟩) (v := undef) rfl (Or.inr ⟨by rfl, rfl⟩) ?_
   (try simp only [Act.put, setIfInBounds_toArray, set_cons_zero, set_cons_succ])
   refine lk47 (i := 29) (oi := ⟨some 39, .fieldAddr 40 (.tmp 38) 0, 0, "l12_prices.go:51", #[⟨28, .data⟩, ⟨19, .guard⟩], some (19, true)⟩) (v := undef) rfl (Or.inr ⟨by rfl, rfl⟩) ?_
   (try simp only [Act.put, setIfInBounds_toArray, set_cons_zero, set_cons_succ])
   refine lk47 (i := 30) (oi := ⟨some 40, .load 9 (.tmp 39), 9, "l12_prices.go:51", #[⟨29, .data⟩, ⟨19, .guard⟩], some (19, true)⟩) (v := undef) rfl (Or.inr ⟨by rfl, rfl⟩) ?_
   (try simp only [Act.put, setIfInBounds_toArray, set_cons_zero, set_cons_succ])
   refine lk47 (i := 31) (oi := ⟨some 41, .binOp .geq 9 (.tmp 35) (.tmp 40) 9, 4, "l12_prices.go:51", #[⟨25, .data⟩, ⟨30, .data⟩, ⟨19, .guard⟩], some (19, true)⟩) (v := undef) rfl (Or.inr ⟨by rfl, rfl⟩) ?_
   (try simp only [Act.put, setIfInBounds_toArray, set_cons_zero, set_cons_succ])
   refine lk47 (i := 32) (oi := ⟨some 42, .pick (.tmp 29) (.tmp 41) (.const (Value.bool false)), 4, "l12_prices.go:51", #[⟨19, .data⟩, ⟨31, .data⟩, ⟨16, .guard⟩], some (16, false)⟩) (v := undef) rfl (Or.inr ⟨by rfl, rfl⟩) ?_
   (try simp only [Act.put, setIfInBounds_toArray, set_cons_zero, set_cons_succ])
   refine lk47 (i := 33) (oi := ⟨some 43, .pick (.tmp 26) (.const (Value.bool true)) (.tmp 42), 4, "l12_prices.go:51", #[⟨16, .data⟩, ⟨32, .data⟩], none⟩) (v := ?_) rfl (Or.inl ⟨by rfl, ?_⟩) ?_
   rotate_left
   ·intro w hSw
    (try dsimp only at hSw)
    first | (go_simp; done) | (go_simp; with_reducible rfl)
   (try simp only [Act.put, setIfInBounds_toArray, set_cons_zero, set_cons_succ])
   refine wpAnyH_done (by kernel_rfl) ?_ _
   have HF := Lib.hid (HNo.out (HOk.out.trans HB.out))
   go_wp2
   go_ret
   exact ⟨by rw [HD.out, HF.out]; rfl, rfl, rfl, rfl, Nat.le_refl _, fun _ _ => rfl⟩
  have Hit := Lib.hid hit
  rcases hrg : inB x.qty 1 999 with _ | _
  ·have Hrg := Lib.hid hrg
   have HB : Hid (x.ok = false) := by show x.ok = false; unfold LnV.ok; rw [hrg, Bool.and_false]
   clear hrg hit
   have hS : (w.drewN m).drew.cell? ⟨b, off + k * 3, none⟩ = some (.string x.item) ∧ (w.drewN m).drew.cell? ⟨b, off + k * 3 + 1, none⟩ = some (.int .i64 x.qty) ∧ (w.drewN m).drew.cell? ⟨b, off + k * 3 + 2, none⟩ = some (.bool x.saved) ∧ (w.drewN m).drew.cell? ⟨b, off + j * 3, none⟩ = some (.string z.item) := ⟨d0, d1, d2, e0⟩
   go_wp2_with fail
   refine wp_region_held_drew (S := fun w' => w'.cell? ⟨b, off + k * 3, none⟩ = some (.string x.item) ∧ w'.cell? ⟨b, off + k * 3 + 1, none⟩ = some (.int .i64 x.qty) ∧ w'.cell? ⟨b, off + k * 3 + 2, none⟩ = some (.bool x.saved) ∧ w'.cell? ⟨b, off + j * 3, none⟩ = some (.string z.item)) (by kernel_rfl) hS (fun hHeld => ?_)
   clear hHeld
   refine lk47 (i := 0) (oi := ⟨some 10, .move (.tmp 0), 24, "l12_prices.go:51", #[], none⟩) (v := ?_) rfl (Or.inl ⟨by rfl, ?_⟩) ?_
   rotate_left
   ·intro w hSw
    (try dsimp only at hSw)
    first | (go_simp; done) | (go_simp; with_reducible rfl)
   (try simp only [Act.put, setIfInBounds_toArray, set_cons_zero, set_cons_succ])
   refine lk47 (i := 1) (oi := ⟨some 11, .move (.tmp 3), 3, "l12_prices.go:51", #[], none⟩) (v := ?_) rfl (Or.inl ⟨by rfl, ?_⟩) ?_
   rotate_left
   ·intro w hSw
    (try dsimp only at hSw)
    first | (go_simp; done) | (go_simp; with_reducible rfl)
   (try simp only [Act.put, setIfInBounds_toArray, set_cons_zero, set_cons_succ])
   refine lk47 (i := 2) (oi := ⟨some 12, .indexAddr 24 (.tmp 10) (.tmp 11), 0, "l12_prices.go:51", #[⟨0, .data⟩, ⟨1, .data⟩], none⟩) (v := ?_) rfl (Or.inl ⟨by rfl, ?_⟩) ?_
   rotate_left
   ·intro w hSw
    (try dsimp only at hSw)
    first | (go_simp; done) | (go_simp; with_reducible rfl)
   (try simp only [Act.put, setIfInBounds_toArray, set_cons_zero, set_cons_succ])
   refine lk47 (i := 3) (oi := ⟨some 13, .fieldAddr 40 (.tmp 12) 0, 0, "l12_prices.go:51", #[⟨2, .data⟩], none⟩) (v := ?_) rfl (Or.inl ⟨by rfl, ?_⟩) ?_
   rotate_left
   ·intro w hSw
    (try dsimp only at hSw)
    first | (go_simp; done) | (go_simp; with_reducible rfl)
   (try simp only [Act.put, setIfInBounds_toArray, set_cons_zero, set_cons_succ])
   refine lk47 (i := 4) (oi := ⟨some 14, .load 9 (.tmp 13), 9, "l12_prices.go:51", #[⟨3, .data⟩], none⟩) (v := ?_) rfl (Or.inl ⟨by rfl, ?_⟩) ?_
   rotate_left
   ·intro w hSw
    (try dsimp only at hSw)
    first | (go_simp; done) | (go_simp; with_reducible rfl)
   (try simp only [Act.put, setIfInBounds_toArray, set_cons_zero, set_cons_succ])
   refine rk 5 rfl (fun K hK => ?_)
   go_simp
   go_at_call 33
   refine (l3Item x.item hio _).mono ?_
   rintro e w2 ⟨rfl, rfl⟩
   rw [Hit.out]
   refine hK.out _ _ hS (fun hHeld2 => ?_)
   clear hK K
   (try simp only [Act.put, setIfInBounds_toArray, set_cons_zero, set_cons_succ])
   refine lk47 (i := 6) (oi := ⟨some 16, .unOp .not 4 (.tmp 15), 4, "l12_prices.go:51", #[⟨5, .data⟩], none⟩) (v := ?_) rfl (Or.inl ⟨by rfl, ?_⟩) ?_
   rotate_left
   ·intro w hSw
    (try dsimp only at hSw)
    first | (go_simp; done) | (go_simp; with_reducible rfl)
   (try simp only [Act.put, setIfInBounds_toArray, set_cons_zero, set_cons_succ])
   refine lk47 (i := 7) (oi := ⟨some 17, .move (.tmp 16), 4, "l12_prices.go:51", #[⟨6, .data⟩, ⟨5, .chain⟩], none⟩) (v := ?_) rfl (Or.inl ⟨by rfl, ?_⟩) ?_
   rotate_left
   ·intro w hSw
    (try dsimp only at hSw)
    first | (go_simp; done) | (go_simp; with_reducible rfl)
   (try simp only [Act.put, setIfInBounds_toArray, set_cons_zero, set_cons_succ])
   refine lk47 (i := 8) (oi := ⟨some 18, .move (.tmp 0), 24, "l12_prices.go:51", #[⟨7, .guard⟩], some (7, false)⟩) (v := ?_) rfl (Or.inl ⟨by rfl, ?_⟩) ?_
   rotate_left
   ·intro w hSw
    (try dsimp only at hSw)
    first | (go_simp; done) | (go_simp; with_reducible rfl)
   (try simp only [Act.put, setIfInBounds_toArray, set_cons_zero, set_cons_succ])
   refine lk47 (i := 9) (oi := ⟨some 19, .move (.tmp 3), 3, "l12_prices.go:51", #[⟨7, .guard⟩], some (7, false)⟩) (v := ?_) rfl (Or.inl ⟨by rfl, ?_⟩) ?_
   rotate_left
   ·intro w hSw
    (try dsimp only at hSw)
    first | (go_simp; done) | (go_simp; with_reducible rfl)
   (try simp only [Act.put, setIfInBounds_toArray, set_cons_zero, set_cons_succ])
   refine lk47 (i := 10) (oi := ⟨some 20, .indexAddr 24 (.tmp 18) (.tmp 19), 0, "l12_prices.go:51", #[⟨8, .data⟩, ⟨9, .data⟩, ⟨7, .guard⟩], some (7, false)⟩) (v := ?_) rfl (Or.inl ⟨by rfl, ?_⟩) ?_
   rotate_left
   ·intro w hSw
    (try dsimp only at hSw)
    first | (go_simp; done) | (go_simp; with_reducible rfl)
   (try simp only [Act.put, setIfInBounds_toArray, set_cons_zero, set_cons_succ])
   refine lk47 (i := 11) (oi := ⟨some 21, .fieldAddr 40 (.tmp 20) 1, 0, "l12_prices.go:51", #[⟨10, .data⟩, ⟨7, .guard⟩], some (7, false)⟩) (v := ?_) rfl (Or.inl ⟨by rfl, ?_⟩) ?_
   rotate_left
   ·intro w hSw
    (try dsimp only at hSw)
    first | (go_simp; done) | (go_simp; with_reducible rfl)
   (try simp only [Act.put, setIfInBounds_toArray, set_cons_zero, set_cons_succ])
   refine lk47 (i := 12) (oi := ⟨some 22, .load 2 (.tmp 21), 2, "l12_prices.go:51", #[⟨11, .data⟩, ⟨7, .guard⟩], some (7, false)⟩) (v := ?_) rfl (Or.inl ⟨by rfl, ?_⟩) ?_
   rotate_left
   ·intro w hSw
    (try dsimp only at hSw)
    first | (go_simp; done) | (go_simp; with_reducible rfl)
   (try simp only [Act.put, setIfInBounds_toArray, set_cons_zero, set_cons_succ])
   refine rk 13 rfl (fun K hK => ?_)
   go_simp
   go_at_call 34
   refine (l1In x.qty 1 999 _).mono ?_
   rintro e w2 ⟨rfl, rfl⟩
   rw [Hrg.out]
   refine hK.out _ _ hS (fun hHeld3 => ?_)
   clear hK K
   (try simp only [Act.put, setIfInBounds_toArray, set_cons_zero, set_cons_succ])
   refine lk47 (i := 14) (oi := ⟨some 24, .unOp .not 4 (.tmp 23), 4, "l12_prices.go:51", #[⟨13, .data⟩, ⟨7, .guard⟩], some (7, false)⟩) (v := ?_) rfl (Or.inl ⟨by rfl, ?_⟩) ?_
   rotate_left
   ·intro w hSw
    (try dsimp only at hSw)
    first | (go_simp; done) | (go_simp; with_reducible rfl)
   (try simp only [Act.put, setIfInBounds_toArray, set_cons_zero, set_cons_succ])
   refine lk47 (i := 15) (oi := ⟨some 25, .pick (.tmp 17) (.const (Value.bool true)) (.tmp 24), 4, "l12_prices.go:51", #[⟨7, .data⟩, ⟨14, .data⟩], none⟩) (v := ?_) rfl (Or.inl ⟨by rfl, ?_⟩) ?_
   rotate_left
   ·intro w hSw
    (try dsimp only at hSw)
    first | (go_simp; done) | (go_simp; with_reducible rfl)
   (try simp only [Act.put, setIfInBounds_toArray, set_cons_zero, set_cons_succ])
   refine lk47 (i := 16) (oi := ⟨some 26, .move (.tmp 25), 4, "l12_prices.go:51", #[⟨15, .data⟩, ⟨13, .chain⟩], none⟩) (v := ?_) rfl (Or.inl ⟨by rfl, ?_⟩) ?_
   rotate_left
   ·intro w hSw
    (try dsimp only at hSw)
    first | (go_simp; done) | (go_simp; with_reducible rfl)
   (try simp only [Act.put, setIfInBounds_toArray, set_cons_zero, set_cons_succ])
   refine lk47 (i := 17) (oi := ⟨some 27, .move (.tmp 3), 3, "l12_prices.go:51", #[⟨16, .guard⟩], some (16, false)⟩) (v := undef) rfl (Or.inr ⟨by rfl, rfl⟩) ?_
   (try simp only [Act.put, setIfInBounds_toArray, set_cons_zero, set_cons_succ])
   refine lk47 (i := 18) (oi := ⟨some 28, .binOp .gtr 3 (.tmp 27) (.const (Value.int IntKind.i64 0)) 3, 4, "l12_prices.go:51", #[⟨17, .data⟩, ⟨16, .guard⟩], some (16, false)⟩) (v := undef) rfl (Or.inr ⟨by rfl, rfl⟩) ?_
   (try simp only [Act.put, setIfInBounds_toArray, set_cons_zero, set_cons_succ])
   refine lk47 (i := 19) (oi := ⟨some 29, .move (.tmp 28), 4, "l12_prices.go:51", #[⟨18, .data⟩, ⟨16, .chain⟩, ⟨16, .guard⟩], some (16, false)⟩) (v := undef) rfl (Or.inr ⟨by rfl, rfl⟩) ?_
   (try simp only [Act.put, setIfInBounds_toArray, set_cons_zero, set_cons_succ])
   refine lk47 (i := 20) (oi := ⟨some 30, .move (.tmp 0), 24, "l12_prices.go:51", #[⟨19, .guard⟩], some (19, true)⟩) (v := undef) rfl (Or.inr ⟨by rfl, rfl⟩) ?_
   (try simp only [Act.put, setIfInBounds_toArray, set_cons_zero, set_cons_succ])
   refine lk47 (i := 21) (oi := ⟨some 31, .move (.tmp 3), 3, "l12_prices.go:51", #[⟨19, .guard⟩], some (19, true)⟩) (v := undef) rfl (Or.inr ⟨by rfl, rfl⟩) ?_
   (try simp only [Act.put, setIfInBounds_toArray, set_cons_zero, set_cons_succ])
   refine lk47 (i := 22) (oi := ⟨some 32, .binOp .sub 3 (.tmp 31) (.const (Value.int IntKind.i64 1)) 3, 3, "l12_prices.go:51", #[⟨21, .data⟩, ⟨19, .guard⟩], some (19, true)⟩) (v := undef) rfl (Or.inr ⟨by rfl, rfl⟩) ?_
   (try simp only [Act.put, setIfInBounds_toArray, set_cons_zero, set_cons_succ])
   refine lk47 (i := 23) (oi := ⟨some 33, .indexAddr 24 (.tmp 30) (.tmp 32), 0, "l12_prices.go:51", #[⟨20, .data⟩, ⟨22, .data⟩, ⟨19, .guard⟩], some (19, true)⟩) (v := undef) rfl (Or.inr ⟨by rfl, rfl⟩) ?_
   (try simp only [Act.put, setIfInBounds_toArray, set_cons_zero, set_cons_succ])
   refine lk47 (i := 24) (oi := ⟨some 34, .fieldAddr 40 (.tmp 33) 0, 0, "l12_prices.go:51", #[⟨23, .data⟩, ⟨19, .guard⟩], some (19, true)⟩) (v := undef) rfl (Or.inr ⟨by rfl, rfl⟩) ?_
   (try simp only [Act.put, setIfInBounds_toArray, set_cons_zero, set_cons_succ])
   refine lk47 (i := 25) (oi := ⟨some 35, .load 9 (.tmp 34), 9, "l12_prices.go:51", #[⟨24, .data⟩, ⟨19, .guard⟩], some (19, true)⟩) (v := undef) rfl (Or.inr ⟨by rfl, rfl⟩) ?_
   (try simp only [Act.put, setIfInBounds_toArray, set_cons_zero, set_cons_succ])
   refine lk47 (i := 26) (oi := ⟨some 36, .move (.tmp 0), 24, "l12_prices.go:51", #[⟨19, .guard⟩], some (19, true)⟩) (v := undef) rfl (Or.inr ⟨by rfl, rfl⟩) ?_
   (try simp only [Act.put, setIfInBounds_toArray, set_cons_zero, set_cons_succ])
   refine lk47 (i := 27) (oi := ⟨some 37, .move (.tmp 3), 3, "l12_prices.go:51", #[⟨19, .guard⟩], some (19, true)⟩) (v := undef) rfl (Or.inr ⟨by rfl, rfl⟩) ?_
   (try simp only [Act.put, setIfInBounds_toArray, set_cons_zero, set_cons_succ])
   refine lk47 (i := 28) (oi := ⟨some 38, .indexAddr 24 (.tmp 36) (.tmp 37), 0, "l12_prices.go:51", #[⟨26, .data⟩, ⟨27, .data⟩, ⟨19, .guard⟩], some (19, true)⟩) (v := undef) rfl (Or.inr ⟨by rfl, rfl⟩) ?_
   (try simp only [Act.put, setIfInBounds_toArray, set_cons_zero, set_cons_succ])
   refine lk47 (i := 29) (oi := ⟨some 39, .fieldAddr 40 (.tmp 38) 0, 0, "l12_prices.go:51", #[⟨28, .data⟩, ⟨19, .guard⟩], some (19, true)⟩) (v := undef) rfl (Or.inr ⟨by rfl, rfl⟩) ?_
   (try simp only [Act.put, setIfInBounds_toArray, set_cons_zero, set_cons_succ])
   refine lk47 (i := 30) (oi := ⟨some 40, .load 9 (.tmp 39), 9, "l12_prices.go:51", #[⟨29, .data⟩, ⟨19, .guard⟩], some (19, true)⟩) (v := undef) rfl (Or.inr ⟨by rfl, rfl⟩) ?_
   (try simp only [Act.put, setIfInBounds_toArray, set_cons_zero, set_cons_succ])
   refine lk47 (i := 31) (oi := ⟨some 41, .binOp .geq 9 (.tmp 35) (.tmp 40) 9, 4, "l12_prices.go:51", #[⟨25, .data⟩, ⟨30, .data⟩, ⟨19, .guard⟩], some (19, true)⟩) (v := undef) rfl (Or.inr ⟨by rfl, rfl⟩) ?_
   (try simp only [Act.put, setIfInBounds_toArray, set_cons_zero, set_cons_succ])
   refine lk47 (i := 32) (oi := ⟨some 42, .pick (.tmp 29) (.tmp 41) (.const (Value.bool false)), 4, "l12_prices.go:51", #[⟨19, .data⟩, ⟨31, .data⟩, ⟨16, .guard⟩], some (16, false)⟩) (v := undef) rfl (Or.inr ⟨by rfl, rfl⟩) ?_
   (try simp only [Act.put, setIfInBounds_toArray, set_cons_zero, set_cons_succ])
   refine lk47 (i := 33) (oi := ⟨some 43, .pick (.tmp 26) (.const (Value.bool true)) (.tmp 42), 4, "l12_prices.go:51", #[⟨16, .data⟩, ⟨32, .data⟩], none⟩) (v := ?_) rfl (Or.inl ⟨by rfl, ?_⟩) ?_
   rotate_left
   ·intro w hSw
    (try dsimp only at hSw)
    first | (go_simp; done) | (go_simp; with_reducible rfl)
   (try simp only [Act.put, setIfInBounds_toArray, set_cons_zero, set_cons_succ])
   refine wpAnyH_done (by kernel_rfl) ?_ _
   have HF := Lib.hid (HNo.out (HOk.out.trans HB.out))
   go_wp2
   go_ret
   exact ⟨by rw [HD.out, HF.out]; rfl, rfl, rfl, rfl, Nat.le_refl _, fun _ _ => rfl⟩
  have Hrg := Lib.hid hrg
  have HOy : Lnok l k = true := HOk.out.trans (by show x.ok = true; unfold LnV.ok; rw [hit, hrg]; rfl)
  have HOY := Lib.hid HOy
  clear hit hrg HOy
  rcases hls : ltS z.item x.item with _ | _
  ·have hbl : Op.bytesLess z.item.toList x.item.toList = false := hls
   have HF := Lib.hid (HNi.out (HIk.out.trans hls))
   clear hls
   have hS : (w.drewN m).drew.cell? ⟨b, off + k * 3, none⟩ = some (.string x.item) ∧ (w.drewN m).drew.cell? ⟨b, off + k * 3 + 1, none⟩ = some (.int .i64 x.qty) ∧ (w.drewN m).drew.cell? ⟨b, off + k * 3 + 2, none⟩ = some (.bool x.saved) ∧ (w.drewN m).drew.cell? ⟨b, off + j * 3, none⟩ = some (.string z.item) := ⟨d0, d1, d2, e0⟩
   go_wp2_with fail
   refine wp_region_held_drew (S := fun w' => w'.cell? ⟨b, off + k * 3, none⟩ = some (.string x.item) ∧ w'.cell? ⟨b, off + k * 3 + 1, none⟩ = some (.int .i64 x.qty) ∧ w'.cell? ⟨b, off + k * 3 + 2, none⟩ = some (.bool x.saved) ∧ w'.cell? ⟨b, off + j * 3, none⟩ = some (.string z.item)) (by kernel_rfl) hS (fun hHeld => ?_)
   clear hHeld
   refine lk47 (i := 0) (oi := ⟨some 10, .move (.tmp 0), 24, "l12_prices.go:51", #[], none⟩) (v := ?_) rfl (Or.inl ⟨by rfl, ?_⟩) ?_
   rotate_left
   ·intro w hSw
    (try dsimp only at hSw)
    first | (go_simp; done) | (go_simp; with_reducible rfl)
   (try simp only [Act.put, setIfInBounds_toArray, set_cons_zero, set_cons_succ])
   refine lk47 (i := 1) (oi := ⟨some 11, .move (.tmp 3), 3, "l12_prices.go:51", #[], none⟩) (v := ?_) rfl (Or.inl ⟨by rfl, ?_⟩) ?_
   rotate_left
   ·intro w hSw
    (try dsimp only at hSw)
    first | (go_simp; done) | (go_simp; with_reducible rfl)
   (try simp only [Act.put, setIfInBounds_toArray, set_cons_zero, set_cons_succ])
   refine lk47 (i := 2) (oi := ⟨some 12, .indexAddr 24 (.tmp 10) (.tmp 11), 0, "l12_prices.go:51", #[⟨0, .data⟩, ⟨1, .data⟩], none⟩) (v := ?_) rfl (Or.inl ⟨by rfl, ?_⟩) ?_
   rotate_left
   ·intro w hSw
    (try dsimp only at hSw)
    first | (go_simp; done) | (go_simp; with_reducible rfl)
   (try simp only [Act.put, setIfInBounds_toArray, set_cons_zero, set_cons_succ])
   refine lk47 (i := 3) (oi := ⟨some 13, .fieldAddr 40 (.tmp 12) 0, 0, "l12_prices.go:51", #[⟨2, .data⟩], none⟩) (v := ?_) rfl (Or.inl ⟨by rfl, ?_⟩) ?_
   rotate_left
   ·intro w hSw
    (try dsimp only at hSw)
    first | (go_simp; done) | (go_simp; with_reducible rfl)
   (try simp only [Act.put, setIfInBounds_toArray, set_cons_zero, set_cons_succ])
   refine lk47 (i := 4) (oi := ⟨some 14, .load 9 (.tmp 13), 9, "l12_prices.go:51", #[⟨3, .data⟩], none⟩) (v := ?_) rfl (Or.inl ⟨by rfl, ?_⟩) ?_
   rotate_left
   ·intro w hSw
    (try dsimp only at hSw)
    first | (go_simp; done) | (go_simp; with_reducible rfl)
   (try simp only [Act.put, setIfInBounds_toArray, set_cons_zero, set_cons_succ])
   refine rk 5 rfl (fun K hK => ?_)
   go_simp
   go_at_call 33
   refine (l3Item x.item hio _).mono ?_
   rintro e w2 ⟨rfl, rfl⟩
   rw [Hit.out]
   refine hK.out _ _ hS (fun hHeld2 => ?_)
   clear hK K
   (try simp only [Act.put, setIfInBounds_toArray, set_cons_zero, set_cons_succ])
   refine lk47 (i := 6) (oi := ⟨some 16, .unOp .not 4 (.tmp 15), 4, "l12_prices.go:51", #[⟨5, .data⟩], none⟩) (v := ?_) rfl (Or.inl ⟨by rfl, ?_⟩) ?_
   rotate_left
   ·intro w hSw
    (try dsimp only at hSw)
    first | (go_simp; done) | (go_simp; with_reducible rfl)
   (try simp only [Act.put, setIfInBounds_toArray, set_cons_zero, set_cons_succ])
   refine lk47 (i := 7) (oi := ⟨some 17, .move (.tmp 16), 4, "l12_prices.go:51", #[⟨6, .data⟩, ⟨5, .chain⟩], none⟩) (v := ?_) rfl (Or.inl ⟨by rfl, ?_⟩) ?_
   rotate_left
   ·intro w hSw
    (try dsimp only at hSw)
    first | (go_simp; done) | (go_simp; with_reducible rfl)
   (try simp only [Act.put, setIfInBounds_toArray, set_cons_zero, set_cons_succ])
   refine lk47 (i := 8) (oi := ⟨some 18, .move (.tmp 0), 24, "l12_prices.go:51", #[⟨7, .guard⟩], some (7, false)⟩) (v := ?_) rfl (Or.inl ⟨by rfl, ?_⟩) ?_
   rotate_left
   ·intro w hSw
    (try dsimp only at hSw)
    first | (go_simp; done) | (go_simp; with_reducible rfl)
   (try simp only [Act.put, setIfInBounds_toArray, set_cons_zero, set_cons_succ])
   refine lk47 (i := 9) (oi := ⟨some 19, .move (.tmp 3), 3, "l12_prices.go:51", #[⟨7, .guard⟩], some (7, false)⟩) (v := ?_) rfl (Or.inl ⟨by rfl, ?_⟩) ?_
   rotate_left
   ·intro w hSw
    (try dsimp only at hSw)
    first | (go_simp; done) | (go_simp; with_reducible rfl)
   (try simp only [Act.put, setIfInBounds_toArray, set_cons_zero, set_cons_succ])
   refine lk47 (i := 10) (oi := ⟨some 20, .indexAddr 24 (.tmp 18) (.tmp 19), 0, "l12_prices.go:51", #[⟨8, .data⟩, ⟨9, .data⟩, ⟨7, .guard⟩], some (7, false)⟩) (v := ?_) rfl (Or.inl ⟨by rfl, ?_⟩) ?_
   rotate_left
   ·intro w hSw
    (try dsimp only at hSw)
    first | (go_simp; done) | (go_simp; with_reducible rfl)
   (try simp only [Act.put, setIfInBounds_toArray, set_cons_zero, set_cons_succ])
   refine lk47 (i := 11) (oi := ⟨some 21, .fieldAddr 40 (.tmp 20) 1, 0, "l12_prices.go:51", #[⟨10, .data⟩, ⟨7, .guard⟩], some (7, false)⟩) (v := ?_) rfl (Or.inl ⟨by rfl, ?_⟩) ?_
   rotate_left
   ·intro w hSw
    (try dsimp only at hSw)
    first | (go_simp; done) | (go_simp; with_reducible rfl)
   (try simp only [Act.put, setIfInBounds_toArray, set_cons_zero, set_cons_succ])
   refine lk47 (i := 12) (oi := ⟨some 22, .load 2 (.tmp 21), 2, "l12_prices.go:51", #[⟨11, .data⟩, ⟨7, .guard⟩], some (7, false)⟩) (v := ?_) rfl (Or.inl ⟨by rfl, ?_⟩) ?_
   rotate_left
   ·intro w hSw
    (try dsimp only at hSw)
    first | (go_simp; done) | (go_simp; with_reducible rfl)
   (try simp only [Act.put, setIfInBounds_toArray, set_cons_zero, set_cons_succ])
   refine rk 13 rfl (fun K hK => ?_)
   go_simp
   go_at_call 34
   refine (l1In x.qty 1 999 _).mono ?_
   rintro e w2 ⟨rfl, rfl⟩
   rw [Hrg.out]
   refine hK.out _ _ hS (fun hHeld3 => ?_)
   clear hK K
   (try simp only [Act.put, setIfInBounds_toArray, set_cons_zero, set_cons_succ])
   refine lk47 (i := 14) (oi := ⟨some 24, .unOp .not 4 (.tmp 23), 4, "l12_prices.go:51", #[⟨13, .data⟩, ⟨7, .guard⟩], some (7, false)⟩) (v := ?_) rfl (Or.inl ⟨by rfl, ?_⟩) ?_
   rotate_left
   ·intro w hSw
    (try dsimp only at hSw)
    first | (go_simp; done) | (go_simp; with_reducible rfl)
   (try simp only [Act.put, setIfInBounds_toArray, set_cons_zero, set_cons_succ])
   refine lk47 (i := 15) (oi := ⟨some 25, .pick (.tmp 17) (.const (Value.bool true)) (.tmp 24), 4, "l12_prices.go:51", #[⟨7, .data⟩, ⟨14, .data⟩], none⟩) (v := ?_) rfl (Or.inl ⟨by rfl, ?_⟩) ?_
   rotate_left
   ·intro w hSw
    (try dsimp only at hSw)
    first | (go_simp; done) | (go_simp; with_reducible rfl)
   (try simp only [Act.put, setIfInBounds_toArray, set_cons_zero, set_cons_succ])
   refine lk47 (i := 16) (oi := ⟨some 26, .move (.tmp 25), 4, "l12_prices.go:51", #[⟨15, .data⟩, ⟨13, .chain⟩], none⟩) (v := ?_) rfl (Or.inl ⟨by rfl, ?_⟩) ?_
   rotate_left
   ·intro w hSw
    (try dsimp only at hSw)
    first | (go_simp; done) | (go_simp; with_reducible rfl)
   (try simp only [Act.put, setIfInBounds_toArray, set_cons_zero, set_cons_succ])
   refine lk47 (i := 17) (oi := ⟨some 27, .move (.tmp 3), 3, "l12_prices.go:51", #[⟨16, .guard⟩], some (16, false)⟩) (v := ?_) rfl (Or.inl ⟨by rfl, ?_⟩) ?_
   rotate_left
   ·intro w hSw
    (try dsimp only at hSw)
    first | (go_simp; done) | (go_simp; with_reducible rfl)
   (try simp only [Act.put, setIfInBounds_toArray, set_cons_zero, set_cons_succ])
   refine lk47 (i := 18) (oi := ⟨some 28, .binOp .gtr 3 (.tmp 27) (.const (Value.int IntKind.i64 0)) 3, 4, "l12_prices.go:51", #[⟨17, .data⟩, ⟨16, .guard⟩], some (16, false)⟩) (v := ?_) rfl (Or.inl ⟨by rfl, ?_⟩) ?_
   rotate_left
   ·intro w hSw
    (try dsimp only at hSw)
    first | (go_simp; done) | (go_simp; with_reducible rfl)
   (try simp only [Act.put, setIfInBounds_toArray, set_cons_zero, set_cons_succ])
   refine lk47 (i := 19) (oi := ⟨some 29, .move (.tmp 28), 4, "l12_prices.go:51", #[⟨18, .data⟩, ⟨16, .chain⟩, ⟨16, .guard⟩], some (16, false)⟩) (v := ?_) rfl (Or.inl ⟨by rfl, ?_⟩) ?_
   rotate_left
   ·intro w hSw
    (try dsimp only at hSw)
    first | (go_simp; done) | (go_simp; with_reducible rfl)
   (try simp only [Act.put, setIfInBounds_toArray, set_cons_zero, set_cons_succ])
   refine lk47 (i := 20) (oi := ⟨some 30, .move (.tmp 0), 24, "l12_prices.go:51", #[⟨19, .guard⟩], some (19, true)⟩) (v := ?_) rfl (Or.inl ⟨by rfl, ?_⟩) ?_
   rotate_left
   ·intro w hSw
    (try dsimp only at hSw)
    first | (go_simp; done) | (go_simp; with_reducible rfl)
   (try simp only [Act.put, setIfInBounds_toArray, set_cons_zero, set_cons_succ])
   refine lk47 (i := 21) (oi := ⟨some 31, .move (.tmp 3), 3, "l12_prices.go:51", #[⟨19, .guard⟩], some (19, true)⟩) (v := ?_) rfl (Or.inl ⟨by rfl, ?_⟩) ?_
   rotate_left
   ·intro w hSw
    (try dsimp only at hSw)
    first | (go_simp; done) | (go_simp; with_reducible rfl)
   (try simp only [Act.put, setIfInBounds_toArray, set_cons_zero, set_cons_succ])
   refine lk47 (i := 22) (oi := ⟨some 32, .binOp .sub 3 (.tmp 31) (.const (Value.int IntKind.i64 1)) 3, 3, "l12_prices.go:51", #[⟨21, .data⟩, ⟨19, .guard⟩], some (19, true)⟩) (v := ?_) rfl (Or.inl ⟨by rfl, ?_⟩) ?_
   rotate_left
   ·intro w hSw
    (try dsimp only at hSw)
    first | (go_simp; done) | (go_simp; with_reducible rfl)
   (try simp only [Act.put, setIfInBounds_toArray, set_cons_zero, set_cons_succ])
   refine lk47 (i := 23) (oi := ⟨some 33, .indexAddr 24 (.tmp 30) (.tmp 32), 0, "l12_prices.go:51", #[⟨20, .data⟩, ⟨22, .data⟩, ⟨19, .guard⟩], some (19, true)⟩) (v := ?_) rfl (Or.inl ⟨by rfl, ?_⟩) ?_
   rotate_left
   ·intro w hSw
    (try dsimp only at hSw)
    first | (go_simp; done) | (go_simp; with_reducible rfl)
   (try simp only [Act.put, setIfInBounds_toArray, set_cons_zero, set_cons_succ])
   refine lk47 (i := 24) (oi := ⟨some 34, .fieldAddr 40 (.tmp 33) 0, 0, "l12_prices.go:51", #[⟨23, .data⟩, ⟨19, .guard⟩], some (19, true)⟩) (v := ?_) rfl (Or.inl ⟨by rfl, ?_⟩) ?_
   rotate_left
   ·intro w hSw
    (try dsimp only at hSw)
    first | (go_simp; done) | (go_simp; with_reducible rfl)
   (try simp only [Act.put, setIfInBounds_toArray, set_cons_zero, set_cons_succ])
   refine lk47 (i := 25) (oi := ⟨some 35, .load 9 (.tmp 34), 9, "l12_prices.go:51", #[⟨24, .data⟩, ⟨19, .guard⟩], some (19, true)⟩) (v := ?_) rfl (Or.inl ⟨by rfl, ?_⟩) ?_
   rotate_left
   ·intro w hSw
    (try dsimp only at hSw)
    first | (go_simp; done) | (go_simp; with_reducible rfl)
   (try simp only [Act.put, setIfInBounds_toArray, set_cons_zero, set_cons_succ])
   refine lk47 (i := 26) (oi := ⟨some 36, .move (.tmp 0), 24, "l12_prices.go:51", #[⟨19, .guard⟩], some (19, true)⟩) (v := ?_) rfl (Or.inl ⟨by rfl, ?_⟩) ?_
   rotate_left
   ·intro w hSw
    (try dsimp only at hSw)
    first | (go_simp; done) | (go_simp; with_reducible rfl)
   (try simp only [Act.put, setIfInBounds_toArray, set_cons_zero, set_cons_succ])
   refine lk47 (i := 27) (oi := ⟨some 37, .move (.tmp 3), 3, "l12_prices.go:51", #[⟨19, .guard⟩], some (19, true)⟩) (v := ?_) rfl (Or.inl ⟨by rfl, ?_⟩) ?_
   rotate_left
   ·intro w hSw
    (try dsimp only at hSw)
    first | (go_simp; done) | (go_simp; with_reducible rfl)
   (try simp only [Act.put, setIfInBounds_toArray, set_cons_zero, set_cons_succ])
   refine lk47 (i := 28) (oi := ⟨some 38, .indexAddr 24 (.tmp 36) (.tmp 37), 0, "l12_prices.go:51", #[⟨26, .data⟩, ⟨27, .data⟩, ⟨19, .guard⟩], some (19, true)⟩) (v := ?_) rfl (Or.inl ⟨by rfl, ?_⟩) ?_
   rotate_left
   ·intro w hSw
    (try dsimp only at hSw)
    first | (go_simp; done) | (go_simp; with_reducible rfl)
   (try simp only [Act.put, setIfInBounds_toArray, set_cons_zero, set_cons_succ])
   refine lk47 (i := 29) (oi := ⟨some 39, .fieldAddr 40 (.tmp 38) 0, 0, "l12_prices.go:51", #[⟨28, .data⟩, ⟨19, .guard⟩], some (19, true)⟩) (v := ?_) rfl (Or.inl ⟨by rfl, ?_⟩) ?_
   rotate_left
   ·intro w hSw
    (try dsimp only at hSw)
    first | (go_simp; done) | (go_simp; with_reducible rfl)
   (try simp only [Act.put, setIfInBounds_toArray, set_cons_zero, set_cons_succ])
   refine lk47 (i := 30) (oi := ⟨some 40, .load 9 (.tmp 39), 9, "l12_prices.go:51", #[⟨29, .data⟩, ⟨19, .guard⟩], some (19, true)⟩) (v := ?_) rfl (Or.inl ⟨by rfl, ?_⟩) ?_
   rotate_left
   ·intro w hSw
    (try dsimp only at hSw)
    first | (go_simp; done) | (go_simp; with_reducible rfl)
   (try simp only [Act.put, setIfInBounds_toArray, set_cons_zero, set_cons_succ])
   refine lk47 (i := 31) (oi := ⟨some 41, .binOp .geq 9 (.tmp 35) (.tmp 40) 9, 4, "l12_prices.go:51", #[⟨25, .data⟩, ⟨30, .data⟩, ⟨19, .guard⟩], some (19, true)⟩) (v := ?_) rfl (Or.inl ⟨by rfl, ?_⟩) ?_
   rotate_left
   ·intro w hSw
    (try dsimp only at hSw)
    first | (go_simp; done) | (go_simp; with_reducible rfl)
   (try simp only [Act.put, setIfInBounds_toArray, set_cons_zero, set_cons_succ])
   refine lk47 (i := 32) (oi := ⟨some 42, .pick (.tmp 29) (.tmp 41) (.const (Value.bool false)), 4, "l12_prices.go:51", #[⟨19, .data⟩, ⟨31, .data⟩, ⟨16, .guard⟩], some (16, false)⟩) (v := ?_) rfl (Or.inl ⟨by rfl, ?_⟩) ?_
   rotate_left
   ·intro w hSw
    (try dsimp only at hSw)
    first | (go_simp; done) | (go_simp; with_reducible rfl)
   (try simp only [Act.put, setIfInBounds_toArray, set_cons_zero, set_cons_succ])
   refine lk47 (i := 33) (oi := ⟨some 43, .pick (.tmp 26) (.const (Value.bool true)) (.tmp 42), 4, "l12_prices.go:51", #[⟨16, .data⟩, ⟨32, .data⟩], none⟩) (v := ?_) rfl (Or.inl ⟨by rfl, ?_⟩) ?_
   rotate_left
   ·intro w hSw
    (try dsimp only at hSw)
    first | (go_simp; done) | (go_simp; with_reducible rfl)
   (try simp only [Act.put, setIfInBounds_toArray, set_cons_zero, set_cons_succ])
   refine wpAnyH_done (by kernel_rfl) ?_ _
   go_wp2
   go_ret
   exact ⟨by rw [HD.out, HF.out]; rfl, rfl, rfl, rfl, Nat.le_refl _, fun _ _ => rfl⟩
  have hbl : Op.bytesLess z.item.toList x.item.toList = true := hls
  have HA := Lib.hid (HSo.out HOY.out)
  have HBb := Lib.hid (HSi.out (HIk.out.trans hls))
  clear hls
  have hS : (w.drewN m).drew.cell? ⟨b, off + k * 3, none⟩ = some (.string x.item) ∧ (w.drewN m).drew.cell? ⟨b, off + k * 3 + 1, none⟩ = some (.int .i64 x.qty) ∧ (w.drewN m).drew.cell? ⟨b, off + k * 3 + 2, none⟩ = some (.bool x.saved) ∧ (w.drewN m).drew.cell? ⟨b, off + j * 3, none⟩ = some (.string z.item) := ⟨d0, d1, d2, e0⟩
  go_wp2_with fail
  refine wp_region_held_drew (S := fun w' => w'.cell? ⟨b, off + k * 3, none⟩ = some (.string x.item) ∧ w'.cell? ⟨b, off + k * 3 + 1, none⟩ = some (.int .i64 x.qty) ∧ w'.cell? ⟨b, off + k * 3 + 2, none⟩ = some (.bool x.saved) ∧ w'.cell? ⟨b, off + j * 3, none⟩ = some (.string z.item)) (by kernel_rfl) hS (fun hHeld => ?_)
  clear hHeld
  refine lk47 (i := 0) (oi := ⟨some 10, .move (.tmp 0), 24, "l12_prices.go:51", #[], none⟩) (v := ?_) rfl (Or.inl ⟨by rfl, ?_⟩) ?_
  rotate_left
  ·intro w hSw
   (try dsimp only at hSw)
   first | (go_simp; done) | (go_simp; with_reducible rfl)
  (try simp only [Act.put, setIfInBounds_toArray, set_cons_zero, set_cons_succ])
  refine lk47 (i := 1) (oi := ⟨some 11, .move (.tmp 3), 3, "l12_prices.go:51", #[], none⟩) (v := ?_) rfl (Or.inl ⟨by rfl, ?_⟩) ?_
  rotate_left
  ·intro w hSw
   (try dsimp only at hSw)
   first | (go_simp; done) | (go_simp; with_reducible rfl)
  (try simp only [Act.put, setIfInBounds_toArray, set_cons_zero, set_cons_succ])
  refine lk47 (i := 2) (oi := ⟨some 12, .indexAddr 24 (.tmp 10) (.tmp 11), 0, "l12_prices.go:51", #[⟨0, .data⟩, ⟨1, .data⟩], none⟩) (v := ?_) rfl (Or.inl ⟨by rfl, ?_⟩) ?_
  rotate_left
  ·intro w hSw
   (try dsimp only at hSw)
   first | (go_simp; done) | (go_simp; with_reducible rfl)
  (try simp only [Act.put, setIfInBounds_toArray, set_cons_zero, set_cons_succ])
  refine lk47 (i := 3) (oi := ⟨some 13, .fieldAddr 40 (.tmp 12) 0, 0, "l12_prices.go:51", #[⟨2, .data⟩], none⟩) (v := ?_) rfl (Or.inl ⟨by rfl, ?_⟩) ?_
  rotate_left
  ·intro w hSw
   (try dsimp only at hSw)
   first | (go_simp; done) | (go_simp; with_reducible rfl)
  (try simp only [Act.put, setIfInBounds_toArray, set_cons_zero, set_cons_succ])
  refine lk47 (i := 4) (oi := ⟨some 14, .load 9 (.tmp 13), 9, "l12_prices.go:51", #[⟨3, .data⟩], none⟩) (v := ?_) rfl (Or.inl ⟨by rfl, ?_⟩) ?_
  rotate_left
  ·intro w hSw
   (try dsimp only at hSw)
   first | (go_simp; done) | (go_simp; with_reducible rfl)
  (try simp only [Act.put, setIfInBounds_toArray, set_cons_zero, set_cons_succ])
  refine rk 5 rfl (fun K hK => ?_)
  go_simp
  go_at_call 33
  refine (l3Item x.item hio _).mono ?_
  rintro e w2 ⟨rfl, rfl⟩
  rw [Hit.out]
  refine hK.out _ _ hS (fun hHeld2 => ?_)
  clear hK K
  (try simp only [Act.put, setIfInBounds_toArray, set_cons_zero, set_cons_succ])
  refine lk47 (i := 6) (oi := ⟨some 16, .unOp .not 4 (.tmp 15), 4, "l12_prices.go:51", #[⟨5, .data⟩], none⟩) (v := ?_) rfl (Or.inl ⟨by rfl, ?_⟩) ?_
  rotate_left
  ·intro w hSw
   (try dsimp only at hSw)
   first | (go_simp; done) | (go_simp; with_reducible rfl)
  (try simp only [Act.put, setIfInBounds_toArray, set_cons_zero, set_cons_succ])
  refine lk47 (i := 7) (oi := ⟨some 17, .move (.tmp 16), 4, "l12_prices.go:51", #[⟨6, .data⟩, ⟨5, .chain⟩], none⟩) (v := ?_) rfl (Or.inl ⟨by rfl, ?_⟩) ?_
  rotate_left
  ·intro w hSw
   (try dsimp only at hSw)
   first | (go_simp; done) | (go_simp; with_reducible rfl)
  (try simp only [Act.put, setIfInBounds_toArray, set_cons_zero, set_cons_succ])
  refine lk47 (i := 8) (oi := ⟨some 18, .move (.tmp 0), 24, "l12_prices.go:51", #[⟨7, .guard⟩], some (7, false)⟩) (v := ?_) rfl (Or.inl ⟨by rfl, ?_⟩) ?_
  rotate_left
  ·intro w hSw
   (try dsimp only at hSw)
   first | (go_simp; done) | (go_simp; with_reducible rfl)
  (try simp only [Act.put, setIfInBounds_toArray, set_cons_zero, set_cons_succ])
  refine lk47 (i := 9) (oi := ⟨some 19, .move (.tmp 3), 3, "l12_prices.go:51", #[⟨7, .guard⟩], some (7, false)⟩) (v := ?_) rfl (Or.inl ⟨by rfl, ?_⟩) ?_
  rotate_left
  ·intro w hSw
   (try dsimp only at hSw)
   first | (go_simp; done) | (go_simp; with_reducible rfl)
  (try simp only [Act.put, setIfInBounds_toArray, set_cons_zero, set_cons_succ])
  refine lk47 (i := 10) (oi := ⟨some 20, .indexAddr 24 (.tmp 18) (.tmp 19), 0, "l12_prices.go:51", #[⟨8, .data⟩, ⟨9, .data⟩, ⟨7, .guard⟩], some (7, false)⟩) (v := ?_) rfl (Or.inl ⟨by rfl, ?_⟩) ?_
  rotate_left
  ·intro w hSw
   (try dsimp only at hSw)
   first | (go_simp; done) | (go_simp; with_reducible rfl)
  (try simp only [Act.put, setIfInBounds_toArray, set_cons_zero, set_cons_succ])
  refine lk47 (i := 11) (oi := ⟨some 21, .fieldAddr 40 (.tmp 20) 1, 0, "l12_prices.go:51", #[⟨10, .data⟩, ⟨7, .guard⟩], some (7, false)⟩) (v := ?_) rfl (Or.inl ⟨by rfl, ?_⟩) ?_
  rotate_left
  ·intro w hSw
   (try dsimp only at hSw)
   first | (go_simp; done) | (go_simp; with_reducible rfl)
  (try simp only [Act.put, setIfInBounds_toArray, set_cons_zero, set_cons_succ])
  refine lk47 (i := 12) (oi := ⟨some 22, .load 2 (.tmp 21), 2, "l12_prices.go:51", #[⟨11, .data⟩, ⟨7, .guard⟩], some (7, false)⟩) (v := ?_) rfl (Or.inl ⟨by rfl, ?_⟩) ?_
  rotate_left
  ·intro w hSw
   (try dsimp only at hSw)
   first | (go_simp; done) | (go_simp; with_reducible rfl)
  (try simp only [Act.put, setIfInBounds_toArray, set_cons_zero, set_cons_succ])
  refine rk 13 rfl (fun K hK => ?_)
  go_simp
  go_at_call 34
  refine (l1In x.qty 1 999 _).mono ?_
  rintro e w2 ⟨rfl, rfl⟩
  rw [Hrg.out]
  refine hK.out _ _ hS (fun hHeld3 => ?_)
  clear hK K
  (try simp only [Act.put, setIfInBounds_toArray, set_cons_zero, set_cons_succ])
  refine lk47 (i := 14) (oi := ⟨some 24, .unOp .not 4 (.tmp 23), 4, "l12_prices.go:51", #[⟨13, .data⟩, ⟨7, .guard⟩], some (7, false)⟩) (v := ?_) rfl (Or.inl ⟨by rfl, ?_⟩) ?_
  rotate_left
  ·intro w hSw
   (try dsimp only at hSw)
   first | (go_simp; done) | (go_simp; with_reducible rfl)
  (try simp only [Act.put, setIfInBounds_toArray, set_cons_zero, set_cons_succ])
  refine lk47 (i := 15) (oi := ⟨some 25, .pick (.tmp 17) (.const (Value.bool true)) (.tmp 24), 4, "l12_prices.go:51", #[⟨7, .data⟩, ⟨14, .data⟩], none⟩) (v := ?_) rfl (Or.inl ⟨by rfl, ?_⟩) ?_
  rotate_left
  ·intro w hSw
   (try dsimp only at hSw)
   first | (go_simp; done) | (go_simp; with_reducible rfl)
  (try simp only [Act.put, setIfInBounds_toArray, set_cons_zero, set_cons_succ])
  refine lk47 (i := 16) (oi := ⟨some 26, .move (.tmp 25), 4, "l12_prices.go:51", #[⟨15, .data⟩, ⟨13, .chain⟩], none⟩) (v := ?_) rfl (Or.inl ⟨by rfl, ?_⟩) ?_
  rotate_left
  ·intro w hSw
   (try dsimp only at hSw)
   first | (go_simp; done) | (go_simp; with_reducible rfl)
  (try simp only [Act.put, setIfInBounds_toArray, set_cons_zero, set_cons_succ])
  refine lk47 (i := 17) (oi := ⟨some 27, .move (.tmp 3), 3, "l12_prices.go:51", #[⟨16, .guard⟩], some (16, false)⟩) (v := ?_) rfl (Or.inl ⟨by rfl, ?_⟩) ?_
  rotate_left
  ·intro w hSw
   (try dsimp only at hSw)
   first | (go_simp; done) | (go_simp; with_reducible rfl)
  (try simp only [Act.put, setIfInBounds_toArray, set_cons_zero, set_cons_succ])
  refine lk47 (i := 18) (oi := ⟨some 28, .binOp .gtr 3 (.tmp 27) (.const (Value.int IntKind.i64 0)) 3, 4, "l12_prices.go:51", #[⟨17, .data⟩, ⟨16, .guard⟩], some (16, false)⟩) (v := ?_) rfl (Or.inl ⟨by rfl, ?_⟩) ?_
  rotate_left
  ·intro w hSw
   (try dsimp only at hSw)
   first | (go_simp; done) | (go_simp; with_reducible rfl)
  (try simp only [Act.put, setIfInBounds_toArray, set_cons_zero, set_cons_succ])
  refine lk47 (i := 19) (oi := ⟨some 29, .move (.tmp 28), 4, "l12_prices.go:51", #[⟨18, .data⟩, ⟨16, .chain⟩, ⟨16, .guard⟩], some (16, false)⟩) (v := ?_) rfl (Or.inl ⟨by rfl, ?_⟩) ?_
  rotate_left
  ·intro w hSw
   (try dsimp only at hSw)
   first | (go_simp; done) | (go_simp; with_reducible rfl)
  (try simp only [Act.put, setIfInBounds_toArray, set_cons_zero, set_cons_succ])
  refine lk47 (i := 20) (oi := ⟨some 30, .move (.tmp 0), 24, "l12_prices.go:51", #[⟨19, .guard⟩], some (19, true)⟩) (v := ?_) rfl (Or.inl ⟨by rfl, ?_⟩) ?_
  rotate_left
  ·intro w hSw
   (try dsimp only at hSw)
   first | (go_simp; done) | (go_simp; with_reducible rfl)
  (try simp only [Act.put, setIfInBounds_toArray, set_cons_zero, set_cons_succ])
  refine lk47 (i := 21) (oi := ⟨some 31, .move (.tmp 3), 3, "l12_prices.go:51", #[⟨19, .guard⟩], some (19, true)⟩) (v := ?_) rfl (Or.inl ⟨by rfl, ?_⟩) ?_
  rotate_left
  ·intro w hSw
   (try dsimp only at hSw)
   first | (go_simp; done) | (go_simp; with_reducible rfl)
  (try simp only [Act.put, setIfInBounds_toArray, set_cons_zero, set_cons_succ])
  refine lk47 (i := 22) (oi := ⟨some 32, .binOp .sub 3 (.tmp 31) (.const (Value.int IntKind.i64 1)) 3, 3, "l12_prices.go:51", #[⟨21, .data⟩, ⟨19, .guard⟩], some (19, true)⟩) (v := ?_) rfl (Or.inl ⟨by rfl, ?_⟩) ?_
  rotate_left
  ·intro w hSw
   (try dsimp only at hSw)
   first | (go_simp; done) | (go_simp; with_reducible rfl)
  (try simp only [Act.put, setIfInBounds_toArray, set_cons_zero, set_cons_succ])
  refine lk47 (i := 23) (oi := ⟨some 33, .indexAddr 24 (.tmp 30) (.tmp 32), 0, "l12_prices.go:51", #[⟨20, .data⟩, ⟨22, .data⟩, ⟨19, .guard⟩], some (19, true)⟩) (v := ?_) rfl (Or.inl ⟨by rfl, ?_⟩) ?_
  rotate_left
  ·intro w hSw
   (try dsimp only at hSw)
   first | (go_simp; done) | (go_simp; with_reducible rfl)
  (try simp only [Act.put, setIfInBounds_toArray, set_cons_zero, set_cons_succ])
  refine lk47 (i := 24) (oi := ⟨some 34, .fieldAddr 40 (.tmp 33) 0, 0, "l12_prices.go:51", #[⟨23, .data⟩, ⟨19, .guard⟩], some (19, true)⟩) (v := ?_) rfl (Or.inl ⟨by rfl, ?_⟩) ?_
  rotate_left
  ·intro w hSw
   (try dsimp only at hSw)
   first | (go_simp; done) | (go_simp; with_reducible rfl)
  (try simp only [Act.put, setIfInBounds_toArray, set_cons_zero, set_cons_succ])
  refine lk47 (i := 25) (oi := ⟨some 35, .load 9 (.tmp 34), 9, "l12_prices.go:51", #[⟨24, .data⟩, ⟨19, .guard⟩], some (19, true)⟩) (v := ?_) rfl (Or.inl ⟨by rfl, ?_⟩) ?_
  rotate_left
  ·intro w hSw
   (try dsimp only at hSw)
   first | (go_simp; done) | (go_simp; with_reducible rfl)
  (try simp only [Act.put, setIfInBounds_toArray, set_cons_zero, set_cons_succ])
  refine lk47 (i := 26) (oi := ⟨some 36, .move (.tmp 0), 24, "l12_prices.go:51", #[⟨19, .guard⟩], some (19, true)⟩) (v := ?_) rfl (Or.inl ⟨by rfl, ?_⟩) ?_
  rotate_left
  ·intro w hSw
   (try dsimp only at hSw)
   first | (go_simp; done) | (go_simp; with_reducible rfl)
  (try simp only [Act.put, setIfInBounds_toArray, set_cons_zero, set_cons_succ])
  refine lk47 (i := 27) (oi := ⟨some 37, .move (.tmp 3), 3, "l12_prices.go:51", #[⟨19, .guard⟩], some (19, true)⟩) (v := ?_) rfl (Or.inl ⟨by rfl, ?_⟩) ?_
  rotate_left
  ·intro w hSw
   (try dsimp only at hSw)
   first | (go_simp; done) | (go_simp; with_reducible rfl)
  (try simp only [Act.put, setIfInBounds_toArray, set_cons_zero, set_cons_succ])
  refine lk47 (i := 28) (oi := ⟨some 38, .indexAddr 24 (.tmp 36) (.tmp 37), 0, "l12_prices.go:51", #[⟨26, .data⟩, ⟨27, .data⟩, ⟨19, .guard⟩], some (19, true)⟩) (v := ?_) rfl (Or.inl ⟨by rfl, ?_⟩) ?_
  rotate_left
  ·intro w hSw
   (try dsimp only at hSw)
   first | (go_simp; done) | (go_simp; with_reducible rfl)
  (try simp only [Act.put, setIfInBounds_toArray, set_cons_zero, set_cons_succ])
  refine lk47 (i := 29) (oi := ⟨some 39, .fieldAddr 40 (.tmp 38) 0, 0, "l12_prices.go:51", #[⟨28, .data⟩, ⟨19, .guard⟩], some (19, true)⟩) (v := ?_) rfl (Or.inl ⟨by rfl, ?_⟩) ?_
  rotate_left
  ·intro w hSw
   (try dsimp only at hSw)
   first | (go_simp; done) | (go_simp; with_reducible rfl)
  (try simp only [Act.put, setIfInBounds_toArray, set_cons_zero, set_cons_succ])
  refine lk47 (i := 30) (oi := ⟨some 40, .load 9 (.tmp 39), 9, "l12_prices.go:51", #[⟨29, .data⟩, ⟨19, .guard⟩], some (19, true)⟩) (v := ?_) rfl (Or.inl ⟨by rfl, ?_⟩) ?_
  rotate_left
  ·intro w hSw
   (try dsimp only at hSw)
   first | (go_simp; done) | (go_simp; with_reducible rfl)
  (try simp only [Act.put, setIfInBounds_toArray, set_cons_zero, set_cons_succ])
  refine lk47 (i := 31) (oi := ⟨some 41, .binOp .geq 9 (.tmp 35) (.tmp 40) 9, 4, "l12_prices.go:51", #[⟨25, .data⟩, ⟨30, .data⟩, ⟨19, .guard⟩], some (19, true)⟩) (v := ?_) rfl (Or.inl ⟨by rfl, ?_⟩) ?_
  rotate_left
  ·intro w hSw
   (try dsimp only at hSw)
   first | (go_simp; done) | (go_simp; with_reducible rfl)
  (try simp only [Act.put, setIfInBounds_toArray, set_cons_zero, set_cons_succ])
  refine lk47 (i := 32) (oi := ⟨some 42, .pick (.tmp 29) (.tmp 41) (.const (Value.bool false)), 4, "l12_prices.go:51", #[⟨19, .data⟩, ⟨31, .data⟩, ⟨16, .guard⟩], some (16, false)⟩) (v := ?_) rfl (Or.inl ⟨by rfl, ?_⟩) ?_
  rotate_left
  ·intro w hSw
   (try dsimp only at hSw)
   first | (go_simp; done) | (go_simp; with_reducible rfl)
  (try simp only [Act.put, setIfInBounds_toArray, set_cons_zero, set_cons_succ])
  refine lk47 (i := 33) (oi := ⟨some 43, .pick (.tmp 26) (.const (Value.bool true)) (.tmp 42), 4, "l12_prices.go:51", #[⟨16, .data⟩, ⟨32, .data⟩], none⟩) (v := ?_) rfl (Or.inl ⟨by rfl, ?_⟩) ?_
  rotate_left
  ·intro w hSw
   (try dsimp only at hSw)
   first | (go_simp; done) | (go_simp; with_reducible rfl)
  (try simp only [Act.put, setIfInBounds_toArray, set_cons_zero, set_cons_succ])
  refine wpAnyH_done (by kernel_rfl) ?_ _
  go_wp2
  go_roundw
  case rel => exact ⟨k + 1, m + 1, by omega, by go_num, by rfl, HA, HBb⟩
  case measure => simp [intOf]; omega
end Go.Proofs.YtgagchlcafdiaaaGreat
