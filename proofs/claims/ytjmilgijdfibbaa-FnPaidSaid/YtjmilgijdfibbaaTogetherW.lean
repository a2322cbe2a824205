/- The walk of the law FnTogether. -/
import Derived.Test.YtjmilgijdfibbaaPaidD
import Derived.Deep.Cut
namespace Go.Proofs.Ytjmilgijdfibbaa
open Go.RowKit
set_option linter.unusedVariables false
set_option linter.unusedSimpArgs false

theorem paidZ_low {q b f : Int} (hq : 0 ≤ q) (hb : 1 ≤ b) (hf : 1 ≤ f) : 0 ≤ paidZ q b f ∧ paidZ q b f ≤ q := by
  obtain ⟨h1, h2, h3⟩ := paid_bounds (q := q) (b := b) (f := f) hq hb hf
  unfold paidZ
  generalize q / (b + f) * b = z at *
  omega
/-- What is paid is nothing valid, or what the rule says. -/
theorem paid_cases (q : Int) (s : ByteArray) (b f : Int) : paidB q s b f = -1 ∨ (offB s b f = true ∧ (0 ≤ q ∧ q ≤ 999) ∧ ((1 ≤ b ∧ b ≤ 99) ∧ (1 ≤ f ∧ f ≤ 99)) ∧ paidB q s b f = paidZ q b f) := by
  rcases h : offB s b f with _ | _
  · exact .inl (paid_off h)
  · rcases h2 : inB q 0 999 with _ | _
    · exact .inl (paid_qty h2)
    · refine .inr ⟨rfl, ?_, off_parts h, paid_yes h h2⟩
      unfold inB at h2
      simpa using h2
set_option maxRecDepth 100000 in
set_option maxHeartbeats 4000000 in
theorem fnTogetherWalk (a : Option Addr) (len cap : Nat) (zs : List Int) (w : World) (h : IsRow .u8 w a len cap zs) :
    Calls Try.prog 7 #[.slice a len cap] w fun e w' => e = .returned (.bool true) ∧ Below w.heap.size w w' := by
  by_cases hl : len ≤ 1048576
  rotate_left
  · go_enter Try.func7, Try.ntmps7
    go_wp2_with fail
    refine (bigYes a len cap hl _).mono ?_
    rintro e w1 ⟨rfl, rfl⟩
    go_wp2
    go_ret
    exact ⟨rfl, Below.refl _ _⟩
  have HS := Lib.hid (src_of_row h hl)
  clear h
  go_enter Try.func7, Try.ntmps7
  go_wp2_with fail
  refine (bigNo a len cap hl _).mono ?_
  rintro e w1 ⟨rfl, rfl⟩
  go_wp2_with fail
  refine (drawPaid w w.heap.size a len cap (Nat.le_refl _) HS.out).mono ?_
  rintro e w1 ⟨q, s, b, f, rfl, hs8, hb1⟩
  have HB1 := Lib.hid hb1
  have hs : s.size ≤ 1048576 := by omega
  have hb2 : Below w1.heap.size w1 (w1.alloc (.cells #[.string s, .int .i64 b, .int .i64 f] 26)) := (Below.refl _ _).alloc (Nat.le_refl _) _
  have HX2 := Lib.hid (heap_alloc_new w1 (.cells #[.string s, .int .i64 b, .int .i64 f] 26))
  have HB2 := Lib.hid (hb1.trans (hb2.mono hb1.size))
  have hz2 : (w1.alloc (.cells #[.string s, .int .i64 b, .int .i64 f] 26)).heap.size = w1.heap.size + 1 := by show (w1.heap.push _).size = _; simp
  clear hb1 hb2 HB1 HS
  go_upto_region 4 with fail
  generalize w1.alloc (.cells #[.string s, .int .i64 b, .int .i64 f] 26) = w2 at HX2 HB2 hz2 ⊢
  obtain ⟨b4, hb4⟩ : ∃ x, w1.heap.size = x := ⟨_, rfl⟩
  rw [hb4] at HX2 hz2 ⊢
  clear hb4
  obtain ⟨⟨c0, c1, c2⟩, _⟩ := trip HX2.out
  go_wp2_with fail
  refine (implPaid q s b f w2).mono ?_
  rintro e w3 ⟨rfl, hb3⟩
  have HX3 := Lib.hid ((hb3.block _ (by omega)).trans HX2.out)
  have HB3 := Lib.hid (HB2.out.trans (hb3.mono HB2.out.size))
  have hz3 := hb3.size
  clear hb3 c0 c1 c2
  obtain ⟨⟨c0, c1, c2⟩, _⟩ := trip HX3.out
  have HC := Lib.hid (paid_cases q s b f)
  have HSp := Lib.hid (fun W => specPaid q s b f W hs)
  obtain ⟨n, hn⟩ : ∃ n, paidB q s b f = n := ⟨_, rfl⟩
  rw [hn] at HC HSp ⊢
  have HN := Lib.hid hn
  clear hn
  have hnn : (n != n) = false := bne_self_eq_false _
  have hne : (n == n) = true := beq_self_eq_true _
  go_wp2_with fail
  refine (HSp.out w3).mono ?_
  rintro e w4 ⟨rfl, hb4⟩
  have HX4 := Lib.hid ((hb4.block _ (by omega)).trans HX3.out)
  have HB4 := Lib.hid (HB3.out.trans (hb4.mono HB3.out.size))
  have hz4 := hb4.size
  clear hb4 c0 c1 c2
  obtain ⟨⟨c0, c1, c2⟩, _⟩ := trip HX4.out
  by_cases hneg : n < 0
  · have hnd : decide (n < 0) = true := decide_eq_true hneg
    go_wp2_with fail
    refine (HSp.out w4).mono ?_
    rintro e w5 ⟨rfl, hb5⟩
    have HB5 := Lib.hid (HB4.out.trans (hb5.mono HB4.out.size))
    clear hb5
    go_wp2
    go_ret
    exact ⟨rfl, HB5.out⟩
  have hnd : decide (n < 0) = false := decide_eq_false hneg
  by_cases hbq : 800 < q
  · have hqd : decide (800 < q) = true := decide_eq_true hbq
    go_wp2_with fail
    refine (HSp.out w4).mono ?_
    rintro e w5 ⟨rfl, hb5⟩
    have HB5 := Lib.hid (HB4.out.trans (hb5.mono HB4.out.size))
    clear hb5
    go_wp2
    go_ret
    exact ⟨rfl, HB5.out⟩
  have hqd : decide (800 < q) = false := decide_eq_false hbq
  obtain ⟨hoff, ⟨hq0, hq9⟩, ⟨⟨hb1, hb9⟩, hf1, hf9⟩, hpz⟩ : offB s b f = true ∧ (0 ≤ q ∧ q ≤ 999) ∧ ((1 ≤ b ∧ b ≤ 99) ∧ (1 ≤ f ∧ f ≤ 99)) ∧ n = paidZ q b f := by
    rcases HC.out with h | h
    · omega
    · exact h
  obtain ⟨k, hk⟩ : ∃ k : Nat, len % 150 = k := ⟨_, rfl⟩
  have hk1 : k < 150 := by omega
  have hki : (len : Int) % 150 = (k : Int) := by omega
  have h1 : paidB (q + (k : Int)) s b f = paidZ (q + (k : Int)) b f := paid_yes hoff (by unfold inB; simp; omega)
  have h2 : paidB (k : Int) s b f = paidZ (k : Int) b f := paid_yes hoff (by unfold inB; simp; omega)
  have g1 := paid_up q hb1 hf1 k
  have g2 := paid_sub q (k : Int) hb1 hf1
  have g3 := (paidZ_low (q := (k : Int)) (b := b) (f := f) (by omega) hb1 hf1)
  have g4 := (paidZ_low (q := q) (b := b) (f := f) hq0 hb1 hf1)
  rw [← hpz] at g1 g2 g4
  have HP1 := Lib.hid (fun W => implPaid (q + (k : Int)) s b f W)
  have HP2 := Lib.hid (fun W => implPaid (k : Int) s b f W)
  rw [h1] at HP1
  rw [h2] at HP2
  generalize paidZ (q + (k : Int)) b f = x1 at HP1 g1 g2
  generalize paidZ (k : Int) b f = x2 at HP2 g2 g3
  have hw1 : IntKind.i64.wrap (q + (k : Int)) = q + (k : Int) := IntWalk.i64_in _ (by omega)
  have hw2 : IntKind.i64.wrap (n + x2) = n + x2 := IntWalk.i64_in _ (by omega)
  have htm : ((len : Int)).tmod 150 = (k : Int) := by rw [Int.tmod_eq_emod_of_nonneg (by omega)]; exact hki
  clear h1 h2 hpz hk HC
  have hle : decide (x1 ≤ n + x2) = true := decide_eq_true (by omega)
  have hge : decide (n ≤ x1) = true := decide_eq_true (by omega)
  go_wp2_with fail
  refine (HP1.out w4).mono ?_
  rintro e w5 ⟨rfl, hb5⟩
  have HX5 := Lib.hid ((hb5.block _ (by omega)).trans HX4.out)
  have HB5 := Lib.hid (HB4.out.trans (hb5.mono HB4.out.size))
  clear hb5 c0 c1 c2
  obtain ⟨⟨c0, c1, c2⟩, _⟩ := trip HX5.out
  go_wp2_with fail
  refine (HP2.out w5).mono ?_
  rintro e w6 ⟨rfl, hb6⟩
  have HB6 := Lib.hid (HB5.out.trans (hb6.mono HB5.out.size))
  clear hb6
  go_wp2
  go_ret
  exact ⟨rfl, HB6.out⟩
end Go.Proofs.Ytjmilgijdfibbaa
