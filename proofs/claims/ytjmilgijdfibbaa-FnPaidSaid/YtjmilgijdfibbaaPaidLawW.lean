/- The walks of spec.DrawOffersOk and of the law FnPaid. -/
import Derived.Test.YtjmilgijdfibbaaTogetherW
import Derived.Test.YtjmilgijdfibbaaSortSpW
namespace Go.Proofs.Ytjmilgijdfibbaa
open Go.RowKit
set_option linter.unusedVariables false
set_option linter.unusedSimpArgs false

theorem OInv.ofs {w wr : World} {B g : Nat} {a va : Option Addr} {len cap k vc : Nat} {l : List OfV} (h : OInv w wr B g a len cap (.slice va k vc) k l) : Ofs wr wr.heap.size va k l := by
  refine ⟨h.num, fun i hi => ?_⟩
  obtain ⟨va', vc', e, hf⟩ := h.form
  injection e with e1 e2 e3
  subst e1
  obtain ⟨q, rfl⟩ := hf (by omega)
  obtain ⟨c0, c1, c2⟩ := ofCells_at l i (by rw [h.num]; exact hi)
  have d0 := (h.own.cellAt (i * 3) (by omega)).trans c0
  have d1 := (h.own.cellAt (i * 3 + 1) (by omega)).trans c1
  have d2 := (h.own.cellAt (i * 3 + 2) (by omega)).trans c2
  refine ⟨q, 0, rfl, block_lt_of_cell d0, ?_, ?_, ?_⟩
  · rw [Nat.zero_add]; exact d0
  · rw [Nat.zero_add]; exact d1
  · rw [Nat.zero_add]; exact d2
theorem wpListO {P : Program} {w : World} {ops : Array Oper} {rest : List Oper} {o : Oper} {a : Act} {Q : Exit → Act → World → Prop} (hgd : o.guard = none) (x y : Operand) (ts : Array TypeId) (hop : o.op = Op.call { callee := Callee.builtin Builtin.append, args := #[x, y], argTypes := ts }) (v1 v2 : Value) {v' : Value} {w' : World} (h1 : a.eval x = v1) (h2 : a.eval y = v2)
    (hrun : (Builtin.append_ ts o.type #[v1, v2]).run P w = .ok v' w') (h : wpList P ops Q rest (a.put o.dst v') w') : wpList P ops Q (o :: rest) a w :=
  wpList_plain hgd fun _ hK => opwpO x y ts hop v1 v2 h1 h2 hrun (hK _ _ h)
/-- What DrawOffersOk answers. -/
def DrawsOffers (w : World) (e : Ending) (w' : World) : Prop :=
  ∃ (va : Option Addr) (k vc : Nat) (l : List OfV), k ≤ 5 ∧ e = .returned (.slice va k vc) ∧ Ofs w' w'.heap.size va k l ∧ (∀ i, i < k → (atOf l i).item.size ≤ 1048576) ∧ Below w.heap.size w w'
set_option maxRecDepth 100000 in
set_option maxHeartbeats 4000000 in
theorem drawOffersOk (w : World) (B : Nat) (a : Option Addr) (len cap : Nat) (hB : B ≤ w.heap.size) (h : Src w B a len) :
    Calls Try.prog 33 #[.slice a len cap] w (DrawsOffers w) := by
  have HS0 := Lib.hid h
  clear h
  go_enter Try.func33, Try.ntmps33
  go_wp2_with fail
  refine (l1Open w B a len cap hB HS0.out).mono ?_
  rintro e w1 ⟨rfl, hg1, hr1⟩
  have HB1 : Hid (Below w.heap.size w w1) := below_none hg1 (Nat.le_refl _)
  have hs1 := hg1.size
  have HRd1 := Lib.hid hr1
  have hgl := hr1.lt
  clear hg1 hr1
  go_wp2_with fail
  refine (offers w1 B w.heap.size a len cap HRd1.out).mono ?_
  rintro e w2 ⟨va, k, vc, l, hk, rfl, hI⟩
  have HB2 := Lib.hid (HB1.out.grown hI.grown hs1 (fun k hk => by cases hk; exact Nat.le_refl _))
  have HI2 := Lib.hid hI
  clear hI
  go_wp2_with fail
  refine (once w2 B w.heap.size a len cap HI2.out.rd 4 (by omega) (by omega)).mono ?_
  rintro e w3 ⟨o1, rfl, hg3, hr3⟩
  have HI3 := Lib.hid (HI2.out.step hg3 hr3)
  have HB3 := Lib.hid (HB2.out.grown hg3 HB2.out.size (fun k hk => by cases hk; exact Nat.le_refl _))
  clear hg3 hr3 HI2 HB2
  rcases o1 with _ | _
  · go_wp2
    go_ret
    exact ⟨va, k, vc, l, by omega, rfl, HI3.out.ofs, fun i hi => by have := HI3.out.items i hi; show (l.getD i OfV.zero).item.size ≤ _; omega, HB3.out⟩
  by_cases h0 : k = 0
  · subst h0
    go_wp2
    go_ret
    exact ⟨va, 0, vc, l, by omega, rfl, HI3.out.ofs, fun i hi => absurd hi (by omega), HB3.out⟩
  have hk0 : (0 : Int) < (k : Int) := by omega
  obtain ⟨q0, hq⟩ : ∃ q, va = some ⟨q, 0, none⟩ := by
    obtain ⟨va', vc', e, hf⟩ := HI3.out.form
    injection e with e1 e2 e3
    subst e1
    exact hf (by omega)
  subst hq
  obtain ⟨x, l', rfl⟩ : ∃ x l', l = x :: l' := by
    cases l with
    | nil => have := HI3.out.num; simp at this; omega
    | cons x l' => exact ⟨x, l', rfl⟩
  have hx8 : x.item.size ≤ 8 := HI3.out.items 0 (by omega)
  have c0 : w3.cell? ⟨q0, 0, none⟩ = some (.string x.item) := (HI3.out.own.cellAt 0 (by omega)).trans rfl
  have c1 : w3.cell? ⟨q0, 1, none⟩ = some (.int .i64 x.buy) := (HI3.out.own.cellAt 1 (by omega)).trans rfl
  have c2 : w3.cell? ⟨q0, 2, none⟩ = some (.int .i64 x.free) := (HI3.out.own.cellAt 2 (by omega)).trans rfl
  obtain ⟨ua, uc, w5, hrun, hI5⟩ := HI3.out.push x.item x.buy x.free hx8 (by omega)
  have HI5 := Lib.hid hI5
  have HB5 : Hid (Below w.heap.size w w5) := HB1.out.grown hI5.grown hs1 (fun k hk => by cases hk; exact Nat.le_refl _)
  clear hI5
  go_wp2_with (at_builtin; refine wpListO rfl _ _ _ rfl _ _ rfl rfl hrun ?_)
  try go_wp2
  go_ret
  exact ⟨ua, k + 1, uc, _, by omega, rfl, HI5.out.ofs, fun i hi => by have := HI5.out.items i hi; show (List.getD _ i OfV.zero).item.size ≤ _; omega, HB5.out⟩
set_option maxRecDepth 100000 in
set_option maxHeartbeats 4000000 in
theorem fnPaidWalk (a : Option Addr) (len cap : Nat) (zs : List Int) (w : World) (h : IsRow .u8 w a len cap zs) :
    Calls Try.prog 8 #[.slice a len cap] w fun e w' => e = .returned (.bool true) ∧ Below w.heap.size w w' := by
  by_cases hl : len ≤ 1048576
  rotate_left
  · go_enter Try.func8, Try.ntmps8
    go_wp2_with fail
    refine (bigYes a len cap hl _).mono ?_
    rintro e w1 ⟨rfl, rfl⟩
    go_wp2
    go_ret
    exact ⟨rfl, Below.refl _ _⟩
  have HS := Lib.hid (src_of_row h hl)
  clear h
  go_enter Try.func8, Try.ntmps8
  go_wp2_with fail
  refine (bigNo a len cap hl _).mono ?_
  rintro e w1 ⟨rfl, rfl⟩
  go_wp2_with fail
  refine (drawPaid w w.heap.size a len cap (Nat.le_refl _) HS.out).mono ?_
  rintro e w1 ⟨q, s, b, f, rfl, hs8, hb1⟩
  have hs : s.size ≤ 1048576 := by omega
  have hb2 : Below w1.heap.size w1 (w1.alloc (.cells #[.string s, .int .i64 b, .int .i64 f] 26)) := (Below.refl _ _).alloc (Nat.le_refl _) _
  have HX2 := Lib.hid (heap_alloc_new w1 (.cells #[.string s, .int .i64 b, .int .i64 f] 26))
  have HB2 := Lib.hid (hb1.trans (hb2.mono hb1.size))
  have hz2 : (w1.alloc (.cells #[.string s, .int .i64 b, .int .i64 f] 26)).heap.size = w1.heap.size + 1 := by show (w1.heap.push _).size = _; simp
  have hz1 := hb1.size
  clear hb1 hb2
  go_upto_region 4 with fail
  generalize w1.alloc (.cells #[.string s, .int .i64 b, .int .i64 f] 26) = w2 at HX2 HB2 hz2 ⊢
  obtain ⟨b4, hb4⟩ : ∃ x, w1.heap.size = x := ⟨_, rfl⟩
  rw [hb4] at HX2 hz2 hz1 ⊢
  clear hb4
  obtain ⟨⟨c0, c1, c2⟩, _⟩ := trip HX2.out
  go_wp2_with fail
  refine (implPaid q s b f w2).mono ?_
  rintro e w3 ⟨rfl, hb3⟩
  have HX3 := Lib.hid ((hb3.block _ (by omega)).trans HX2.out)
  have HB3 := Lib.hid (HB2.out.trans (hb3.mono HB2.out.size))
  have hz3 := hb3.size
  clear hb3 c0 c1 c2 HX2
  go_wp2_with fail
  refine (drawOffersOk w3 w.heap.size a len cap HB3.out.size (HS.out.kept fun k hk => HB3.out.block k hk)).mono ?_
  rintro e w4 ⟨va, k, vc, l, hk5, rfl, hofs, hits, hb4⟩
  have HX4 := Lib.hid ((hb4.block _ (by omega)).trans HX3.out)
  have HB4 := Lib.hid (HB3.out.trans (hb4.mono HB3.out.size))
  have HO4 := Lib.hid hofs
  have HIt := Lib.hid hits
  have hz4 := hb4.size
  clear hb4 hofs hits HX3 HB2
  obtain ⟨⟨c0, c1, c2⟩, _⟩ := trip HX4.out
  have HC := Lib.hid (paid_cases q s b f)
  have HSp := Lib.hid (fun W => specPaid q s b f W hs)
  obtain ⟨n, hn⟩ : ∃ n, paidB q s b f = n := ⟨_, rfl⟩
  rw [hn] at HC HSp ⊢
  clear hn
  have hnn : (n != n) = false := bne_self_eq_false _
  have hne : (n == n) = true := beq_self_eq_true _
  obtain ⟨ob, hob⟩ : ∃ ob, OfsB l = ob := ⟨_, rfl⟩
  have HOb := Lib.hid hob
  clear hob
  have hoo : (ob != ob) = false := bne_self_eq_false _
  have hoe : (ob == ob) = true := beq_self_eq_true _
  go_wp2_with fail
  refine (HSp.out w4).mono ?_
  rintro e w5 ⟨rfl, hb5⟩
  have HX5 := Lib.hid ((hb5.block _ (by omega)).trans HX4.out)
  have HB5 := Lib.hid (HB4.out.trans (hb5.mono HB4.out.size))
  have HO5 := Lib.hid (HO4.out.below hb5 (Nat.le_refl _))
  have hz5 := hb5.size
  clear hb5 c0 c1 c2 HX4 HB4 HO4
  go_wp2_with fail
  refine (implOffersOk w5 w4.heap.size va k vc l HO5.out (by omega) (by omega)).mono ?_
  rintro e w6 ⟨rfl, hb6⟩
  rw [HOb.out]
  have HX6 := Lib.hid ((hb6.block _ (by omega)).trans HX5.out)
  have HB6 := Lib.hid (HB5.out.trans (hb6.mono HB5.out.size))
  have HO6 := Lib.hid (HO5.out.below hb6 (by omega))
  have hz6 := hb6.size
  clear hb6 HX5 HB5 HO5
  go_wp2_with fail
  refine (specOfsOk w6 w4.heap.size va k vc l HO6.out (by omega) (by omega) HIt.out).mono ?_
  rintro e w7 ⟨rfl, hb7⟩
  rw [HOb.out]
  have HX7 := Lib.hid ((hb7.block _ (by omega)).trans HX6.out)
  have HB7 := Lib.hid (HB6.out.trans (hb7.mono HB6.out.size))
  have HO7 := Lib.hid (HO6.out.below hb7 (by omega))
  have hz7 := hb7.size
  clear hb7 HX6 HB6 HO6
  obtain ⟨⟨c0, c1, c2⟩, _⟩ := trip HX7.out
  by_cases hneg : n < 0
  · have hnd : decide (n < 0) = true := decide_eq_true hneg
    go_wp2_with fail
    refine (HSp.out w7).mono ?_
    rintro e w8 ⟨rfl, hb8⟩
    have HB8 := Lib.hid (HB7.out.trans (hb8.mono HB7.out.size))
    have HO8 := Lib.hid (HO7.out.below hb8 (by omega))
    have hz8 := hb8.size
    clear hb8
    go_wp2_with fail
    refine (implOffersOk w8 w4.heap.size va k vc l HO8.out (by omega) (by omega)).mono ?_
    rintro e w9 ⟨rfl, hb9⟩
    rw [HOb.out]
    have HB9 := Lib.hid (HB8.out.trans (hb9.mono HB8.out.size))
    have HO9 := Lib.hid (HO8.out.below hb9 (by omega))
    have hz9 := hb9.size
    clear hb9
    go_wp2_with fail
    refine (specOfsOk w9 w4.heap.size va k vc l HO9.out (by omega) (by omega) HIt.out).mono ?_
    rintro e w10 ⟨rfl, hb10⟩
    rw [HOb.out]
    have HB10 := Lib.hid (HB9.out.trans (hb10.mono HB9.out.size))
    clear hb10
    go_wp2
    go_ret
    exact ⟨rfl, HB10.out⟩
  have hnd : decide (n < 0) = false := decide_eq_false hneg
  by_cases hbq : 700 < q
  · have hqd : decide (700 < q) = true := decide_eq_true hbq
    go_wp2_with fail
    refine (HSp.out w7).mono ?_
    rintro e w8 ⟨rfl, hb8⟩
    have HB8 := Lib.hid (HB7.out.trans (hb8.mono HB7.out.size))
    have HO8 := Lib.hid (HO7.out.below hb8 (by omega))
    have hz8 := hb8.size
    clear hb8
    go_wp2_with fail
    refine (implOffersOk w8 w4.heap.size va k vc l HO8.out (by omega) (by omega)).mono ?_
    rintro e w9 ⟨rfl, hb9⟩
    rw [HOb.out]
    have HB9 := Lib.hid (HB8.out.trans (hb9.mono HB8.out.size))
    have HO9 := Lib.hid (HO8.out.below hb9 (by omega))
    have hz9 := hb9.size
    clear hb9
    go_wp2_with fail
    refine (specOfsOk w9 w4.heap.size va k vc l HO9.out (by omega) (by omega) HIt.out).mono ?_
    rintro e w10 ⟨rfl, hb10⟩
    rw [HOb.out]
    have HB10 := Lib.hid (HB9.out.trans (hb10.mono HB9.out.size))
    clear hb10
    go_wp2
    go_ret
    exact ⟨rfl, HB10.out⟩
  have hqd : decide (700 < q) = false := decide_eq_false hbq
  obtain ⟨hoff, ⟨hq0, hq9⟩, ⟨⟨hb1, hb9⟩, hf1, hf9⟩, hpz⟩ : offB s b f = true ∧ (0 ≤ q ∧ q ≤ 999) ∧ ((1 ≤ b ∧ b ≤ 99) ∧ (1 ≤ f ∧ f ≤ 99)) ∧ n = paidZ q b f := by
    rcases HC.out with h | h
    · omega
    · exact h
  have h1 : paidB (q + 1) s b f = paidZ (q + 1) b f := paid_yes hoff (by unfold inB; simp; omega)
  have h2 : paidB (q + b + f) s b f = paidZ (q + b + f) b f := paid_yes hoff (by unfold inB; simp; omega)
  have g1 := paid_more q hb1 hf1
  have g2 := paid_group q hb1 hf1
  have g4 := (paidZ_low (q := q) (b := b) (f := f) hq0 hb1 hf1)
  rw [← hpz] at g1 g2 g4
  have HP1 := Lib.hid (fun W => implPaid (q + 1) s b f W)
  have HP2 := Lib.hid (fun W => implPaid (q + b + f) s b f W)
  rw [h1] at HP1
  rw [h2] at HP2
  generalize paidZ (q + 1) b f = x1 at HP1 g1
  generalize paidZ (q + b + f) b f = x2 at HP2 g2
  have hw1 : IntKind.i64.wrap (q + 1) = q + 1 := IntWalk.i64_in _ (by omega)
  clear h1 h2 hpz HC HO7
  have hle : decide (n ≤ q) = true := decide_eq_true (by omega)
  go_wp2_with fail
  refine (HP1.out w7).mono ?_
  rintro e w8 ⟨rfl, hb8⟩
  have HX8 := Lib.hid ((hb8.block _ (by omega)).trans HX7.out)
  have HB8 := Lib.hid (HB7.out.trans (hb8.mono HB7.out.size))
  have hz8 := hb8.size
  clear hb8 c0 c1 c2 HX7 HB7
  obtain ⟨⟨c0, c1, c2⟩, _⟩ := trip HX8.out
  have wq : IntKind.i64.wrap (q + b) = q + b := IntWalk.i64_in _ (by omega)
  have wqf : IntKind.i64.wrap (q + b + f) = q + b + f := IntWalk.i64_in _ (by omega)
  have wn : IntKind.i64.wrap (n + b) = n + b := IntWalk.i64_in _ (by omega)
  have w1n : IntKind.i64.wrap (n + 1) = n + 1 := IntWalk.i64_in _ (by omega)
  have hx2 : (x2 == n + b) = true := by rw [g2]; exact beq_self_eq_true _
  clear hb1 hb9 hf1 hf9 hq0 hq9 hneg hbq g4
  rcases g1 with g1 | g1
  · have hx1 : (x1 == n) = true := by rw [g1]; exact beq_self_eq_true _
    clear g1 g2
    go_upto_region 9 with fail
    rename_i KR hKR
    have hS : w8.drew.cell? ⟨b4, 0, none⟩ = some (.string s) ∧ w8.drew.cell? ⟨b4, 1, none⟩ = some (.int .i64 b) ∧ w8.drew.cell? ⟨b4, 2, none⟩ = some (.int .i64 f) := ⟨c0, c1, c2⟩
    have HPd := Lib.hid (HP2.out w8.drew)
    refine wp_region_held_drew (S := fun w' => w'.cell? ⟨b4, 0, none⟩ = some (.string s) ∧ w'.cell? ⟨b4, 1, none⟩ = some (.int .i64 b) ∧ w'.cell? ⟨b4, 2, none⟩ = some (.int .i64 f)) (by kernel_rfl) hS (fun hHeld => ?_)
    clear hHeld
    refine wpAnyH_take (i := 0) (oi := { dst := some 56, op := Op.move (Operand.tmp 5), type := 2, pos := "laws.go:1297", after := #[], guard := none }) (v := ?_) rfl (by kernel_rfl) (by kernel_rfl) (by kernel_rfl) (fun _ _ _ h => h) (Or.inl ⟨by rfl, ?_⟩) (by assumption) ?_
    rotate_left
    · intro w hSw
      (try dsimp only at hSw)
      first | (go_simp; done) | (go_simp; with_reducible rfl)
    (try simp only [Act.put, List.setIfInBounds_toArray, List.set_cons_zero, List.set_cons_succ])
    refine wpAnyH_take (i := 1) (oi := { dst := some 57, op := Op.move (Operand.tmp 3), type := 2, pos := "laws.go:1297", after := #[], guard := none }) (v := ?_) rfl (by kernel_rfl) (by kernel_rfl) (by kernel_rfl) (fun _ _ _ h => h) (Or.inl ⟨by rfl, ?_⟩) (by assumption) ?_
    rotate_left
    · intro w hSw
      (try dsimp only at hSw)
      first | (go_simp; done) | (go_simp; with_reducible rfl)
    (try simp only [Act.put, List.setIfInBounds_toArray, List.set_cons_zero, List.set_cons_succ])
    refine wpAnyH_take (i := 2) (oi := { dst := some 58, op := Op.binOp BinOp.leq 2 (Operand.tmp 56) (Operand.tmp 57) 2, type := 4, pos := "laws.go:1297", after := #[{ on := 0, ground := Ground.data }, { on := 1, ground := Ground.data }], guard := none }) (v := ?_) rfl (by kernel_rfl) (by kernel_rfl) (by kernel_rfl) (fun _ _ _ h => h) (Or.inl ⟨by rfl, ?_⟩) (by assumption) ?_
    rotate_left
    · intro w hSw
      (try dsimp only at hSw)
      first | (go_simp; done) | (go_simp; with_reducible rfl)
    (try simp only [Act.put, List.setIfInBounds_toArray, List.set_cons_zero, List.set_cons_succ])
    refine wpAnyH_take (i := 3) (oi := { dst := some 59, op := Op.move (Operand.tmp 58), type := 4, pos := "laws.go:1297", after := #[{ on := 2, ground := Ground.data }], guard := none }) (v := ?_) rfl (by kernel_rfl) (by kernel_rfl) (by kernel_rfl) (fun _ _ _ h => h) (Or.inl ⟨by rfl, ?_⟩) (by assumption) ?_
    rotate_left
    · intro w hSw
      (try dsimp only at hSw)
      first | (go_simp; done) | (go_simp; with_reducible rfl)
    (try simp only [Act.put, List.setIfInBounds_toArray, List.set_cons_zero, List.set_cons_succ])
    refine wpAnyH_take (i := 4) (oi := { dst := some 60, op := Op.move (Operand.tmp 7), type := 2, pos := "laws.go:1297", after := #[{ on := 3, ground := Ground.guard }], guard := some (3, true) }) (v := ?_) rfl (by kernel_rfl) (by kernel_rfl) (by kernel_rfl) (fun _ _ _ h => h) (Or.inl ⟨by rfl, ?_⟩) (by assumption) ?_
    rotate_left
    · intro w hSw
      (try dsimp only at hSw)
      first | (go_simp; done) | (go_simp; with_reducible rfl)
    (try simp only [Act.put, List.setIfInBounds_toArray, List.set_cons_zero, List.set_cons_succ])
    refine wpAnyH_take (i := 5) (oi := { dst := some 61, op := Op.move (Operand.tmp 5), type := 2, pos := "laws.go:1297", after := #[{ on := 3, ground := Ground.guard }], guard := some (3, true) }) (v := ?_) rfl (by kernel_rfl) (by kernel_rfl) (by kernel_rfl) (fun _ _ _ h => h) (Or.inl ⟨by rfl, ?_⟩) (by assumption) ?_
    rotate_left
    · intro w hSw
      (try dsimp only at hSw)
      first | (go_simp; done) | (go_simp; with_reducible rfl)
    (try simp only [Act.put, List.setIfInBounds_toArray, List.set_cons_zero, List.set_cons_succ])
    refine wpAnyH_take (i := 6) (oi := { dst := some 62, op := Op.binOp BinOp.eql 2 (Operand.tmp 60) (Operand.tmp 61) 2, type := 4, pos := "laws.go:1297", after := #[{ on := 4, ground := Ground.data }, { on := 5, ground := Ground.data }, { on := 3, ground := Ground.guard }], guard := some (3, true) }) (v := ?_) rfl (by kernel_rfl) (by kernel_rfl) (by kernel_rfl) (fun _ _ _ h => h) (Or.inl ⟨by rfl, ?_⟩) (by assumption) ?_
    rotate_left
    · intro w hSw
      (try dsimp only at hSw)
      first | (go_simp; done) | (go_simp; with_reducible rfl)
    (try simp only [Act.put, List.setIfInBounds_toArray, List.set_cons_zero, List.set_cons_succ])
    refine wpAnyH_take (i := 7) (oi := { dst := some 63, op := Op.move (Operand.tmp 62), type := 4, pos := "laws.go:1297", after := #[{ on := 6, ground := Ground.data }, { on := 3, ground := Ground.chain }, { on := 3, ground := Ground.guard }], guard := some (3, true) }) (v := ?_) rfl (by kernel_rfl) (by kernel_rfl) (by kernel_rfl) (fun _ _ _ h => h) (Or.inl ⟨by rfl, ?_⟩) (by assumption) ?_
    rotate_left
    · intro w hSw
      (try dsimp only at hSw)
      first | (go_simp; done) | (go_simp; with_reducible rfl)
    (try simp only [Act.put, List.setIfInBounds_toArray, List.set_cons_zero, List.set_cons_succ])
    refine wpAnyH_take (i := 8) (oi := { dst := some 64, op := Op.move (Operand.tmp 7), type := 2, pos := "laws.go:1297", after := #[{ on := 7, ground := Ground.guard }], guard := some (7, false) }) (v := undef) rfl (by kernel_rfl) (by kernel_rfl) (by kernel_rfl) (fun _ _ _ h => h) (Or.inr ⟨by rfl, rfl⟩) (by assumption) ?_
    (try simp only [Act.put, List.setIfInBounds_toArray, List.set_cons_zero, List.set_cons_succ])
    refine wpAnyH_take (i := 9) (oi := { dst := some 65, op := Op.move (Operand.tmp 5), type := 2, pos := "laws.go:1297", after := #[{ on := 7, ground := Ground.guard }], guard := some (7, false) }) (v := undef) rfl (by kernel_rfl) (by kernel_rfl) (by kernel_rfl) (fun _ _ _ h => h) (Or.inr ⟨by rfl, rfl⟩) (by assumption) ?_
    (try simp only [Act.put, List.setIfInBounds_toArray, List.set_cons_zero, List.set_cons_succ])
    refine wpAnyH_take (i := 10) (oi := { dst := some 66, op := Op.binOp BinOp.add 2 (Operand.tmp 65) (Operand.const (Value.int IntKind.i64 1)) 2, type := 2, pos := "laws.go:1297", after := #[{ on := 9, ground := Ground.data }, { on := 7, ground := Ground.guard }], guard := some (7, false) }) (v := undef) rfl (by kernel_rfl) (by kernel_rfl) (by kernel_rfl) (fun _ _ _ h => h) (Or.inr ⟨by rfl, rfl⟩) (by assumption) ?_
    (try simp only [Act.put, List.setIfInBounds_toArray, List.set_cons_zero, List.set_cons_succ])
    refine wpAnyH_take (i := 11) (oi := { dst := some 67, op := Op.binOp BinOp.eql 2 (Operand.tmp 64) (Operand.tmp 66) 2, type := 4, pos := "laws.go:1297", after := #[{ on := 8, ground := Ground.data }, { on := 10, ground := Ground.data }, { on := 7, ground := Ground.guard }], guard := some (7, false) }) (v := undef) rfl (by kernel_rfl) (by kernel_rfl) (by kernel_rfl) (fun _ _ _ h => h) (Or.inr ⟨by rfl, rfl⟩) (by assumption) ?_
    (try simp only [Act.put, List.setIfInBounds_toArray, List.set_cons_zero, List.set_cons_succ])
    refine wpAnyH_take (i := 12) (oi := { dst := some 68, op := Op.pick (Operand.tmp 63) (Operand.const (Value.bool true)) (Operand.tmp 67), type := 4, pos := "laws.go:1297", after := #[{ on := 7, ground := Ground.data }, { on := 11, ground := Ground.data }, { on := 3, ground := Ground.guard }], guard := some (3, true) }) (v := ?_) rfl (by kernel_rfl) (by kernel_rfl) (by kernel_rfl) (fun _ _ _ h => h) (Or.inl ⟨by rfl, ?_⟩) (by assumption) ?_
    rotate_left
    · intro w hSw
      (try dsimp only at hSw)
      first | (go_simp; done) | (go_simp; with_reducible rfl)
    (try simp only [Act.put, List.setIfInBounds_toArray, List.set_cons_zero, List.set_cons_succ])
    refine wpAnyH_take (i := 13) (oi := { dst := some 69, op := Op.pick (Operand.tmp 59) (Operand.tmp 68) (Operand.const (Value.bool false)), type := 4, pos := "laws.go:1297", after := #[{ on := 3, ground := Ground.data }, { on := 12, ground := Ground.data }], guard := none }) (v := ?_) rfl (by kernel_rfl) (by kernel_rfl) (by kernel_rfl) (fun _ _ _ h => h) (Or.inl ⟨by rfl, ?_⟩) (by assumption) ?_
    rotate_left
    · intro w hSw
      (try dsimp only at hSw)
      first | (go_simp; done) | (go_simp; with_reducible rfl)
    (try simp only [Act.put, List.setIfInBounds_toArray, List.set_cons_zero, List.set_cons_succ])
    refine wpAnyH_take (i := 14) (oi := { dst := some 70, op := Op.move (Operand.tmp 69), type := 4, pos := "laws.go:1297", after := #[{ on := 13, ground := Ground.data }, { on := 7, ground := Ground.chain }], guard := none }) (v := ?_) rfl (by kernel_rfl) (by kernel_rfl) (by kernel_rfl) (fun _ _ _ h => h) (Or.inl ⟨by rfl, ?_⟩) (by assumption) ?_
    rotate_left
    · intro w hSw
      (try dsimp only at hSw)
      first | (go_simp; done) | (go_simp; with_reducible rfl)
    (try simp only [Act.put, List.setIfInBounds_toArray, List.set_cons_zero, List.set_cons_succ])
    refine wpAnyH_take (i := 15) (oi := { dst := some 71, op := Op.move (Operand.tmp 3), type := 2, pos := "laws.go:1297", after := #[{ on := 14, ground := Ground.guard }], guard := some (14, true) }) (v := ?_) rfl (by kernel_rfl) (by kernel_rfl) (by kernel_rfl) (fun _ _ _ h => h) (Or.inl ⟨by rfl, ?_⟩) (by assumption) ?_
    rotate_left
    · intro w hSw
      (try dsimp only at hSw)
      first | (go_simp; done) | (go_simp; with_reducible rfl)
    (try simp only [Act.put, List.setIfInBounds_toArray, List.set_cons_zero, List.set_cons_succ])
    refine wpAnyH_take (i := 16) (oi := { dst := some 72, op := Op.fieldAddr 26 (Operand.tmp 4) 1, type := 0, pos := "laws.go:1297", after := #[{ on := 14, ground := Ground.guard }], guard := some (14, true) }) (v := ?_) rfl (by kernel_rfl) (by kernel_rfl) (by kernel_rfl) (fun _ _ _ h => h) (Or.inl ⟨by rfl, ?_⟩) (by assumption) ?_
    rotate_left
    · intro w hSw
      (try dsimp only at hSw)
      first | (go_simp; done) | (go_simp; with_reducible rfl)
    (try simp only [Act.put, List.setIfInBounds_toArray, List.set_cons_zero, List.set_cons_succ])
    refine wpAnyH_take (i := 17) (oi := { dst := some 73, op := Op.load 2 (Operand.tmp 72), type := 2, pos := "laws.go:1297", after := #[{ on := 16, ground := Ground.data }, { on := 14, ground := Ground.guard }], guard := some (14, true) }) (v := ?_) rfl (by kernel_rfl) (by kernel_rfl) (by kernel_rfl) (fun _ _ _ h => h) (Or.inl ⟨by rfl, ?_⟩) (by assumption) ?_
    rotate_left
    · intro w hSw
      (try dsimp only at hSw)
      first | (go_simp; done) | (go_simp; with_reducible rfl)
    (try simp only [Act.put, List.setIfInBounds_toArray, List.set_cons_zero, List.set_cons_succ])
    refine wpAnyH_take (i := 18) (oi := { dst := some 74, op := Op.binOp BinOp.add 2 (Operand.tmp 71) (Operand.tmp 73) 2, type := 2, pos := "laws.go:1297", after := #[{ on := 15, ground := Ground.data }, { on := 17, ground := Ground.data }, { on := 14, ground := Ground.guard }], guard := some (14, true) }) (v := ?_) rfl (by kernel_rfl) (by kernel_rfl) (by kernel_rfl) (fun _ _ _ h => h) (Or.inl ⟨by rfl, ?_⟩) (by assumption) ?_
    rotate_left
    · intro w hSw
      (try dsimp only at hSw)
      first | (go_simp; done) | (go_simp; with_reducible rfl)
    (try simp only [Act.put, List.setIfInBounds_toArray, List.set_cons_zero, List.set_cons_succ])
    refine wpAnyH_take (i := 19) (oi := { dst := some 75, op := Op.fieldAddr 26 (Operand.tmp 4) 2, type := 0, pos := "laws.go:1297", after := #[{ on := 14, ground := Ground.guard }], guard := some (14, true) }) (v := ?_) rfl (by kernel_rfl) (by kernel_rfl) (by kernel_rfl) (fun _ _ _ h => h) (Or.inl ⟨by rfl, ?_⟩) (by assumption) ?_
    rotate_left
    · intro w hSw
      (try dsimp only at hSw)
      first | (go_simp; done) | (go_simp; with_reducible rfl)
    (try simp only [Act.put, List.setIfInBounds_toArray, List.set_cons_zero, List.set_cons_succ])
    refine wpAnyH_take (i := 20) (oi := { dst := some 76, op := Op.load 2 (Operand.tmp 75), type := 2, pos := "laws.go:1297", after := #[{ on := 19, ground := Ground.data }, { on := 14, ground := Ground.guard }], guard := some (14, true) }) (v := ?_) rfl (by kernel_rfl) (by kernel_rfl) (by kernel_rfl) (fun _ _ _ h => h) (Or.inl ⟨by rfl, ?_⟩) (by assumption) ?_
    rotate_left
    · intro w hSw
      (try dsimp only at hSw)
      first | (go_simp; done) | (go_simp; with_reducible rfl)
    (try simp only [Act.put, List.setIfInBounds_toArray, List.set_cons_zero, List.set_cons_succ])
    refine wpAnyH_take (i := 21) (oi := { dst := some 77, op := Op.binOp BinOp.add 2 (Operand.tmp 74) (Operand.tmp 76) 2, type := 2, pos := "laws.go:1297", after := #[{ on := 18, ground := Ground.data }, { on := 20, ground := Ground.data }, { on := 14, ground := Ground.guard }], guard := some (14, true) }) (v := ?_) rfl (by kernel_rfl) (by kernel_rfl) (by kernel_rfl) (fun _ _ _ h => h) (Or.inl ⟨by rfl, ?_⟩) (by assumption) ?_
    rotate_left
    · intro w hSw
      (try dsimp only at hSw)
      first | (go_simp; done) | (go_simp; with_reducible rfl)
    (try simp only [Act.put, List.setIfInBounds_toArray, List.set_cons_zero, List.set_cons_succ])
    refine wpAnyH_take (i := 22) (oi := { dst := some 78, op := Op.load 26 (Operand.tmp 4), type := 26, pos := "laws.go:1297", after := #[{ on := 14, ground := Ground.guard }], guard := some (14, true) }) (v := ?_) rfl (by kernel_rfl) (by kernel_rfl) (by kernel_rfl) (fun _ _ _ h => h) (Or.inl ⟨by rfl, ?_⟩) (by assumption) ?_
    rotate_left
    · intro w hSw
      (try dsimp only at hSw)
      first | (go_simp; done) | (go_simp; with_reducible rfl)
    (try simp only [Act.put, List.setIfInBounds_toArray, List.set_cons_zero, List.set_cons_succ])
    refine wpAnyH_take (i := 24) (oi := { dst := some 80, op := Op.move (Operand.tmp 5), type := 2, pos := "laws.go:1297", after := #[{ on := 14, ground := Ground.guard }], guard := some (14, true) }) (v := ?_) rfl (by kernel_rfl) (by kernel_rfl) (by kernel_rfl) (fun _ _ _ h => h) (Or.inl ⟨by rfl, ?_⟩) (by assumption) ?_
    rotate_left
    · intro w hSw
      (try dsimp only at hSw)
      first | (go_simp; done) | (go_simp; with_reducible rfl)
    (try simp only [Act.put, List.setIfInBounds_toArray, List.set_cons_zero, List.set_cons_succ])
    refine wpAnyH_take (i := 25) (oi := { dst := some 81, op := Op.fieldAddr 26 (Operand.tmp 4) 1, type := 0, pos := "laws.go:1297", after := #[{ on := 14, ground := Ground.guard }], guard := some (14, true) }) (v := ?_) rfl (by kernel_rfl) (by kernel_rfl) (by kernel_rfl) (fun _ _ _ h => h) (Or.inl ⟨by rfl, ?_⟩) (by assumption) ?_
    rotate_left
    · intro w hSw
      (try dsimp only at hSw)
      first | (go_simp; done) | (go_simp; with_reducible rfl)
    (try simp only [Act.put, List.setIfInBounds_toArray, List.set_cons_zero, List.set_cons_succ])
    refine wpAnyH_take (i := 26) (oi := { dst := some 82, op := Op.load 2 (Operand.tmp 81), type := 2, pos := "laws.go:1297", after := #[{ on := 25, ground := Ground.data }, { on := 14, ground := Ground.guard }], guard := some (14, true) }) (v := ?_) rfl (by kernel_rfl) (by kernel_rfl) (by kernel_rfl) (fun _ _ _ h => h) (Or.inl ⟨by rfl, ?_⟩) (by assumption) ?_
    rotate_left
    · intro w hSw
      (try dsimp only at hSw)
      first | (go_simp; done) | (go_simp; with_reducible rfl)
    (try simp only [Act.put, List.setIfInBounds_toArray, List.set_cons_zero, List.set_cons_succ])
    refine wpAnyH_take (i := 27) (oi := { dst := some 83, op := Op.binOp BinOp.add 2 (Operand.tmp 80) (Operand.tmp 82) 2, type := 2, pos := "laws.go:1297", after := #[{ on := 24, ground := Ground.data }, { on := 26, ground := Ground.data }, { on := 14, ground := Ground.guard }], guard := some (14, true) }) (v := ?_) rfl (by kernel_rfl) (by kernel_rfl) (by kernel_rfl) (fun _ _ _ h => h) (Or.inl ⟨by rfl, ?_⟩) (by assumption) ?_
    rotate_left
    · intro w hSw
      (try dsimp only at hSw)
      first | (go_simp; done) | (go_simp; with_reducible rfl)
    (try simp only [Act.put, List.setIfInBounds_toArray, List.set_cons_zero, List.set_cons_succ])
    refine wpAnyH_ready (rs := [23]) (by kernel_rfl) (by simp) ?_
    refine AllReadyH.cons (o := { dst := some 79, op := Op.call { callee := Callee.value (Operand.func 18), args := #[Operand.tmp 77, Operand.tmp 78], argTypes := #[2, 26] }, type := 2, pos := "laws.go:1297", after := #[{ on := 21, ground := Ground.data }, { on := 22, ground := Ground.data }, { on := 14, ground := Ground.chain }, { on := 14, ground := Ground.guard }], guard := some (14, true) }) rfl (fun K hK => ?_) AllReadyH.nil
    go_simp
    go_at_call 18
    refine HPd.out.mono ?_
    rintro e w9 ⟨rfl, hb9x⟩
    have hS2 : w9.cell? ⟨b4, 0, none⟩ = some (.string s) ∧ w9.cell? ⟨b4, 1, none⟩ = some (.int .i64 b) ∧ w9.cell? ⟨b4, 2, none⟩ = some (.int .i64 f) := ⟨(hb9x.cell (block_lt_of_cell hS.1)).trans hS.1, (hb9x.cell (block_lt_of_cell hS.2.1)).trans hS.2.1, (hb9x.cell (block_lt_of_cell hS.2.2)).trans hS.2.2⟩
    have HB9 := Lib.hid (HB8.out.trans ((Below.mk hb9x.os hb9x.tape hb9x.output hb9x.size hb9x.block : Below w8.heap.size w8 w9).mono HB8.out.size))
    refine hK.out _ _ hS2 (fun hHeld2 => ?_)
    clear hK K
    (try simp only [Act.put, List.setIfInBounds_toArray, List.set_cons_zero, List.set_cons_succ])
    refine wpAnyH_take (i := 28) (oi := { dst := some 84, op := Op.binOp BinOp.eql 2 (Operand.tmp 79) (Operand.tmp 83) 2, type := 4, pos := "laws.go:1297", after := #[{ on := 23, ground := Ground.data }, { on := 27, ground := Ground.data }, { on := 14, ground := Ground.guard }], guard := some (14, true) }) (v := ?_) rfl (by kernel_rfl) (by kernel_rfl) (by kernel_rfl) (fun _ _ _ h => h) (Or.inl ⟨by rfl, ?_⟩) (by assumption) ?_
    rotate_left
    · intro w hSw
      (try dsimp only at hSw)
      first | (go_simp; done) | (go_simp; with_reducible rfl)
    (try simp only [Act.put, List.setIfInBounds_toArray, List.set_cons_zero, List.set_cons_succ])
    refine wpAnyH_take (i := 29) (oi := { dst := some 85, op := Op.pick (Operand.tmp 70) (Operand.tmp 84) (Operand.const (Value.bool false)), type := 4, pos := "laws.go:1297", after := #[{ on := 14, ground := Ground.data }, { on := 28, ground := Ground.data }], guard := none }) (v := ?_) rfl (by kernel_rfl) (by kernel_rfl) (by kernel_rfl) (fun _ _ _ h => h) (Or.inl ⟨by rfl, ?_⟩) (by assumption) ?_
    rotate_left
    · intro w hSw
      (try dsimp only at hSw)
      first | (go_simp; done) | (go_simp; with_reducible rfl)
    (try simp only [Act.put, List.setIfInBounds_toArray, List.set_cons_zero, List.set_cons_succ])
    refine wpAnyH_take (i := 30) (oi := { dst := some 2, op := Op.assign (Operand.tmp 85), type := 4, pos := "laws.go:1297", after := #[{ on := 29, ground := Ground.data }, { on := 23, ground := Ground.chain }, { on := 0, ground := Ground.phase }, { on := 1, ground := Ground.phase }, { on := 2, ground := Ground.phase }, { on := 3, ground := Ground.phase }, { on := 4, ground := Ground.phase }, { on := 5, ground := Ground.phase }, { on := 6, ground := Ground.phase }, { on := 7, ground := Ground.phase }, { on := 8, ground := Ground.phase }, { on := 9, ground := Ground.phase }, { on := 10, ground := Ground.phase }, { on := 11, ground := Ground.phase }, { on := 12, ground := Ground.phase }, { on := 13, ground := Ground.phase }, { on := 14, ground := Ground.phase }, { on := 15, ground := Ground.phase }, { on := 16, ground := Ground.phase }, { on := 17, ground := Ground.phase }, { on := 18, ground := Ground.phase }, { on := 19, ground := Ground.phase }, { on := 20, ground := Ground.phase }, { on := 21, ground := Ground.phase }, { on := 22, ground := Ground.phase }, { on := 23, ground := Ground.phase }, { on := 24, ground := Ground.phase }, { on := 25, ground := Ground.phase }, { on := 26, ground := Ground.phase }, { on := 27, ground := Ground.phase }, { on := 28, ground := Ground.phase }, { on := 29, ground := Ground.phase }], guard := none }) (v := ?_) rfl (by kernel_rfl) (by kernel_rfl) (by kernel_rfl) (fun _ _ _ h => h) (Or.inl ⟨by rfl, ?_⟩) (by assumption) ?_
    rotate_left
    · intro w hSw
      (try dsimp only at hSw)
      first | (go_simp; done) | (go_simp; with_reducible rfl)
    (try simp only [Act.put, List.setIfInBounds_toArray, List.set_cons_zero, List.set_cons_succ])
    refine wpAnyH_done (by kernel_rfl) ?_ _
    clear hS hS2 hHeld2 hb9x
    refine hKR _ _ ?_
    go_wp2
    go_ret
    exact ⟨rfl, HB9.out⟩
  have hx1 : (x1 == n) = false := by rw [g1, beq_eq_false_iff_ne]; omega
  have hx1b : (x1 == n + 1) = true := by rw [g1]; exact beq_self_eq_true _
  clear g1 g2
  go_upto_region 9 with fail
  rename_i KR hKR
  have hS : w8.drew.cell? ⟨b4, 0, none⟩ = some (.string s) ∧ w8.drew.cell? ⟨b4, 1, none⟩ = some (.int .i64 b) ∧ w8.drew.cell? ⟨b4, 2, none⟩ = some (.int .i64 f) := ⟨c0, c1, c2⟩
  have HPd := Lib.hid (HP2.out w8.drew)
  refine wp_region_held_drew (S := fun w' => w'.cell? ⟨b4, 0, none⟩ = some (.string s) ∧ w'.cell? ⟨b4, 1, none⟩ = some (.int .i64 b) ∧ w'.cell? ⟨b4, 2, none⟩ = some (.int .i64 f)) (by kernel_rfl) hS (fun hHeld => ?_)
  clear hHeld
  refine wpAnyH_take (i := 0) (oi := { dst := some 56, op := Op.move (Operand.tmp 5), type := 2, pos := "laws.go:1297", after := #[], guard := none }) (v := ?_) rfl (by kernel_rfl) (by kernel_rfl) (by kernel_rfl) (fun _ _ _ h => h) (Or.inl ⟨by rfl, ?_⟩) (by assumption) ?_
  rotate_left
  · intro w hSw
    (try dsimp only at hSw)
    first | (go_simp; done) | (go_simp; with_reducible rfl)
  (try simp only [Act.put, List.setIfInBounds_toArray, List.set_cons_zero, List.set_cons_succ])
  refine wpAnyH_take (i := 1) (oi := { dst := some 57, op := Op.move (Operand.tmp 3), type := 2, pos := "laws.go:1297", after := #[], guard := none }) (v := ?_) rfl (by kernel_rfl) (by kernel_rfl) (by kernel_rfl) (fun _ _ _ h => h) (Or.inl ⟨by rfl, ?_⟩) (by assumption) ?_
  rotate_left
  · intro w hSw
    (try dsimp only at hSw)
    first | (go_simp; done) | (go_simp; with_reducible rfl)
  (try simp only [Act.put, List.setIfInBounds_toArray, List.set_cons_zero, List.set_cons_succ])
  refine wpAnyH_take (i := 2) (oi := { dst := some 58, op := Op.binOp BinOp.leq 2 (Operand.tmp 56) (Operand.tmp 57) 2, type := 4, pos := "laws.go:1297", after := #[{ on := 0, ground := Ground.data }, { on := 1, ground := Ground.data }], guard := none }) (v := ?_) rfl (by kernel_rfl) (by kernel_rfl) (by kernel_rfl) (fun _ _ _ h => h) (Or.inl ⟨by rfl, ?_⟩) (by assumption) ?_
  rotate_left
  · intro w hSw
    (try dsimp only at hSw)
    first | (go_simp; done) | (go_simp; with_reducible rfl)
  (try simp only [Act.put, List.setIfInBounds_toArray, List.set_cons_zero, List.set_cons_succ])
  refine wpAnyH_take (i := 3) (oi := { dst := some 59, op := Op.move (Operand.tmp 58), type := 4, pos := "laws.go:1297", after := #[{ on := 2, ground := Ground.data }], guard := none }) (v := ?_) rfl (by kernel_rfl) (by kernel_rfl) (by kernel_rfl) (fun _ _ _ h => h) (Or.inl ⟨by rfl, ?_⟩) (by assumption) ?_
  rotate_left
  · intro w hSw
    (try dsimp only at hSw)
    first | (go_simp; done) | (go_simp; with_reducible rfl)
  (try simp only [Act.put, List.setIfInBounds_toArray, List.set_cons_zero, List.set_cons_succ])
  refine wpAnyH_take (i := 4) (oi := { dst := some 60, op := Op.move (Operand.tmp 7), type := 2, pos := "laws.go:1297", after := #[{ on := 3, ground := Ground.guard }], guard := some (3, true) }) (v := ?_) rfl (by kernel_rfl) (by kernel_rfl) (by kernel_rfl) (fun _ _ _ h => h) (Or.inl ⟨by rfl, ?_⟩) (by assumption) ?_
  rotate_left
  · intro w hSw
    (try dsimp only at hSw)
    first | (go_simp; done) | (go_simp; with_reducible rfl)
  (try simp only [Act.put, List.setIfInBounds_toArray, List.set_cons_zero, List.set_cons_succ])
  refine wpAnyH_take (i := 5) (oi := { dst := some 61, op := Op.move (Operand.tmp 5), type := 2, pos := "laws.go:1297", after := #[{ on := 3, ground := Ground.guard }], guard := some (3, true) }) (v := ?_) rfl (by kernel_rfl) (by kernel_rfl) (by kernel_rfl) (fun _ _ _ h => h) (Or.inl ⟨by rfl, ?_⟩) (by assumption) ?_
  rotate_left
  · intro w hSw
    (try dsimp only at hSw)
    first | (go_simp; done) | (go_simp; with_reducible rfl)
  (try simp only [Act.put, List.setIfInBounds_toArray, List.set_cons_zero, List.set_cons_succ])
  refine wpAnyH_take (i := 6) (oi := { dst := some 62, op := Op.binOp BinOp.eql 2 (Operand.tmp 60) (Operand.tmp 61) 2, type := 4, pos := "laws.go:1297", after := #[{ on := 4, ground := Ground.data }, { on := 5, ground := Ground.data }, { on := 3, ground := Ground.guard }], guard := some (3, true) }) (v := ?_) rfl (by kernel_rfl) (by kernel_rfl) (by kernel_rfl) (fun _ _ _ h => h) (Or.inl ⟨by rfl, ?_⟩) (by assumption) ?_
  rotate_left
  · intro w hSw
    (try dsimp only at hSw)
    first | (go_simp; done) | (go_simp; with_reducible rfl)
  (try simp only [Act.put, List.setIfInBounds_toArray, List.set_cons_zero, List.set_cons_succ])
  refine wpAnyH_take (i := 7) (oi := { dst := some 63, op := Op.move (Operand.tmp 62), type := 4, pos := "laws.go:1297", after := #[{ on := 6, ground := Ground.data }, { on := 3, ground := Ground.chain }, { on := 3, ground := Ground.guard }], guard := some (3, true) }) (v := ?_) rfl (by kernel_rfl) (by kernel_rfl) (by kernel_rfl) (fun _ _ _ h => h) (Or.inl ⟨by rfl, ?_⟩) (by assumption) ?_
  rotate_left
  · intro w hSw
    (try dsimp only at hSw)
    first | (go_simp; done) | (go_simp; with_reducible rfl)
  (try simp only [Act.put, List.setIfInBounds_toArray, List.set_cons_zero, List.set_cons_succ])
  refine wpAnyH_take (i := 8) (oi := { dst := some 64, op := Op.move (Operand.tmp 7), type := 2, pos := "laws.go:1297", after := #[{ on := 7, ground := Ground.guard }], guard := some (7, false) }) (v := ?_) rfl (by kernel_rfl) (by kernel_rfl) (by kernel_rfl) (fun _ _ _ h => h) (Or.inl ⟨by rfl, ?_⟩) (by assumption) ?_
  rotate_left
  · intro w hSw
    (try dsimp only at hSw)
    first | (go_simp; done) | (go_simp; with_reducible rfl)
  (try simp only [Act.put, List.setIfInBounds_toArray, List.set_cons_zero, List.set_cons_succ])
  refine wpAnyH_take (i := 9) (oi := { dst := some 65, op := Op.move (Operand.tmp 5), type := 2, pos := "laws.go:1297", after := #[{ on := 7, ground := Ground.guard }], guard := some (7, false) }) (v := ?_) rfl (by kernel_rfl) (by kernel_rfl) (by kernel_rfl) (fun _ _ _ h => h) (Or.inl ⟨by rfl, ?_⟩) (by assumption) ?_
  rotate_left
  · intro w hSw
    (try dsimp only at hSw)
    first | (go_simp; done) | (go_simp; with_reducible rfl)
  (try simp only [Act.put, List.setIfInBounds_toArray, List.set_cons_zero, List.set_cons_succ])
  refine wpAnyH_take (i := 10) (oi := { dst := some 66, op := Op.binOp BinOp.add 2 (Operand.tmp 65) (Operand.const (Value.int IntKind.i64 1)) 2, type := 2, pos := "laws.go:1297", after := #[{ on := 9, ground := Ground.data }, { on := 7, ground := Ground.guard }], guard := some (7, false) }) (v := ?_) rfl (by kernel_rfl) (by kernel_rfl) (by kernel_rfl) (fun _ _ _ h => h) (Or.inl ⟨by rfl, ?_⟩) (by assumption) ?_
  rotate_left
  · intro w hSw
    (try dsimp only at hSw)
    first | (go_simp; done) | (go_simp; with_reducible rfl)
  (try simp only [Act.put, List.setIfInBounds_toArray, List.set_cons_zero, List.set_cons_succ])
  refine wpAnyH_take (i := 11) (oi := { dst := some 67, op := Op.binOp BinOp.eql 2 (Operand.tmp 64) (Operand.tmp 66) 2, type := 4, pos := "laws.go:1297", after := #[{ on := 8, ground := Ground.data }, { on := 10, ground := Ground.data }, { on := 7, ground := Ground.guard }], guard := some (7, false) }) (v := ?_) rfl (by kernel_rfl) (by kernel_rfl) (by kernel_rfl) (fun _ _ _ h => h) (Or.inl ⟨by rfl, ?_⟩) (by assumption) ?_
  rotate_left
  · intro w hSw
    (try dsimp only at hSw)
    first | (go_simp; done) | (go_simp; with_reducible rfl)
  (try simp only [Act.put, List.setIfInBounds_toArray, List.set_cons_zero, List.set_cons_succ])
  refine wpAnyH_take (i := 12) (oi := { dst := some 68, op := Op.pick (Operand.tmp 63) (Operand.const (Value.bool true)) (Operand.tmp 67), type := 4, pos := "laws.go:1297", after := #[{ on := 7, ground := Ground.data }, { on := 11, ground := Ground.data }, { on := 3, ground := Ground.guard }], guard := some (3, true) }) (v := ?_) rfl (by kernel_rfl) (by kernel_rfl) (by kernel_rfl) (fun _ _ _ h => h) (Or.inl ⟨by rfl, ?_⟩) (by assumption) ?_
  rotate_left
  · intro w hSw
    (try dsimp only at hSw)
    first | (go_simp; done) | (go_simp; with_reducible rfl)
  (try simp only [Act.put, List.setIfInBounds_toArray, List.set_cons_zero, List.set_cons_succ])
  refine wpAnyH_take (i := 13) (oi := { dst := some 69, op := Op.pick (Operand.tmp 59) (Operand.tmp 68) (Operand.const (Value.bool false)), type := 4, pos := "laws.go:1297", after := #[{ on := 3, ground := Ground.data }, { on := 12, ground := Ground.data }], guard := none }) (v := ?_) rfl (by kernel_rfl) (by kernel_rfl) (by kernel_rfl) (fun _ _ _ h => h) (Or.inl ⟨by rfl, ?_⟩) (by assumption) ?_
  rotate_left
  · intro w hSw
    (try dsimp only at hSw)
    first | (go_simp; done) | (go_simp; with_reducible rfl)
  (try simp only [Act.put, List.setIfInBounds_toArray, List.set_cons_zero, List.set_cons_succ])
  refine wpAnyH_take (i := 14) (oi := { dst := some 70, op := Op.move (Operand.tmp 69), type := 4, pos := "laws.go:1297", after := #[{ on := 13, ground := Ground.data }, { on := 7, ground := Ground.chain }], guard := none }) (v := ?_) rfl (by kernel_rfl) (by kernel_rfl) (by kernel_rfl) (fun _ _ _ h => h) (Or.inl ⟨by rfl, ?_⟩) (by assumption) ?_
  rotate_left
  · intro w hSw
    (try dsimp only at hSw)
    first | (go_simp; done) | (go_simp; with_reducible rfl)
  (try simp only [Act.put, List.setIfInBounds_toArray, List.set_cons_zero, List.set_cons_succ])
  refine wpAnyH_take (i := 15) (oi := { dst := some 71, op := Op.move (Operand.tmp 3), type := 2, pos := "laws.go:1297", after := #[{ on := 14, ground := Ground.guard }], guard := some (14, true) }) (v := ?_) rfl (by kernel_rfl) (by kernel_rfl) (by kernel_rfl) (fun _ _ _ h => h) (Or.inl ⟨by rfl, ?_⟩) (by assumption) ?_
  rotate_left
  · intro w hSw
    (try dsimp only at hSw)
    first | (go_simp; done) | (go_simp; with_reducible rfl)
  (try simp only [Act.put, List.setIfInBounds_toArray, List.set_cons_zero, List.set_cons_succ])
  refine wpAnyH_take (i := 16) (oi := { dst := some 72, op := Op.fieldAddr 26 (Operand.tmp 4) 1, type := 0, pos := "laws.go:1297", after := #[{ on := 14, ground := Ground.guard }], guard := some (14, true) }) (v := ?_) rfl (by kernel_rfl) (by kernel_rfl) (by kernel_rfl) (fun _ _ _ h => h) (Or.inl ⟨by rfl, ?_⟩) (by assumption) ?_
  rotate_left
  · intro w hSw
    (try dsimp only at hSw)
    first | (go_simp; done) | (go_simp; with_reducible rfl)
  (try simp only [Act.put, List.setIfInBounds_toArray, List.set_cons_zero, List.set_cons_succ])
  refine wpAnyH_take (i := 17) (oi := { dst := some 73, op := Op.load 2 (Operand.tmp 72), type := 2, pos := "laws.go:1297", after := #[{ on := 16, ground := Ground.data }, { on := 14, ground := Ground.guard }], guard := some (14, true) }) (v := ?_) rfl (by kernel_rfl) (by kernel_rfl) (by kernel_rfl) (fun _ _ _ h => h) (Or.inl ⟨by rfl, ?_⟩) (by assumption) ?_
  rotate_left
  · intro w hSw
    (try dsimp only at hSw)
    first | (go_simp; done) | (go_simp; with_reducible rfl)
  (try simp only [Act.put, List.setIfInBounds_toArray, List.set_cons_zero, List.set_cons_succ])
  refine wpAnyH_take (i := 18) (oi := { dst := some 74, op := Op.binOp BinOp.add 2 (Operand.tmp 71) (Operand.tmp 73) 2, type := 2, pos := "laws.go:1297", after := #[{ on := 15, ground := Ground.data }, { on := 17, ground := Ground.data }, { on := 14, ground := Ground.guard }], guard := some (14, true) }) (v := ?_) rfl (by kernel_rfl) (by kernel_rfl) (by kernel_rfl) (fun _ _ _ h => h) (Or.inl ⟨by rfl, ?_⟩) (by assumption) ?_
  rotate_left
  · intro w hSw
    (try dsimp only at hSw)
    first | (go_simp; done) | (go_simp; with_reducible rfl)
  (try simp only [Act.put, List.setIfInBounds_toArray, List.set_cons_zero, List.set_cons_succ])
  refine wpAnyH_take (i := 19) (oi := { dst := some 75, op := Op.fieldAddr 26 (Operand.tmp 4) 2, type := 0, pos := "laws.go:1297", after := #[{ on := 14, ground := Ground.guard }], guard := some (14, true) }) (v := ?_) rfl (by kernel_rfl) (by kernel_rfl) (by kernel_rfl) (fun _ _ _ h => h) (Or.inl ⟨by rfl, ?_⟩) (by assumption) ?_
  rotate_left
  · intro w hSw
    (try dsimp only at hSw)
    first | (go_simp; done) | (go_simp; with_reducible rfl)
  (try simp only [Act.put, List.setIfInBounds_toArray, List.set_cons_zero, List.set_cons_succ])
  refine wpAnyH_take (i := 20) (oi := { dst := some 76, op := Op.load 2 (Operand.tmp 75), type := 2, pos := "laws.go:1297", after := #[{ on := 19, ground := Ground.data }, { on := 14, ground := Ground.guard }], guard := some (14, true) }) (v := ?_) rfl (by kernel_rfl) (by kernel_rfl) (by kernel_rfl) (fun _ _ _ h => h) (Or.inl ⟨by rfl, ?_⟩) (by assumption) ?_
  rotate_left
  · intro w hSw
    (try dsimp only at hSw)
    first | (go_simp; done) | (go_simp; with_reducible rfl)
  (try simp only [Act.put, List.setIfInBounds_toArray, List.set_cons_zero, List.set_cons_succ])
  refine wpAnyH_take (i := 21) (oi := { dst := some 77, op := Op.binOp BinOp.add 2 (Operand.tmp 74) (Operand.tmp 76) 2, type := 2, pos := "laws.go:1297", after := #[{ on := 18, ground := Ground.data }, { on := 20, ground := Ground.data }, { on := 14, ground := Ground.guard }], guard := some (14, true) }) (v := ?_) rfl (by kernel_rfl) (by kernel_rfl) (by kernel_rfl) (fun _ _ _ h => h) (Or.inl ⟨by rfl, ?_⟩) (by assumption) ?_
  rotate_left
  · intro w hSw
    (try dsimp only at hSw)
    first | (go_simp; done) | (go_simp; with_reducible rfl)
  (try simp only [Act.put, List.setIfInBounds_toArray, List.set_cons_zero, List.set_cons_succ])
  refine wpAnyH_take (i := 22) (oi := { dst := some 78, op := Op.load 26 (Operand.tmp 4), type := 26, pos := "laws.go:1297", after := #[{ on := 14, ground := Ground.guard }], guard := some (14, true) }) (v := ?_) rfl (by kernel_rfl) (by kernel_rfl) (by kernel_rfl) (fun _ _ _ h => h) (Or.inl ⟨by rfl, ?_⟩) (by assumption) ?_
  rotate_left
  · intro w hSw
    (try dsimp only at hSw)
    first | (go_simp; done) | (go_simp; with_reducible rfl)
  (try simp only [Act.put, List.setIfInBounds_toArray, List.set_cons_zero, List.set_cons_succ])
  refine wpAnyH_take (i := 24) (oi := { dst := some 80, op := Op.move (Operand.tmp 5), type := 2, pos := "laws.go:1297", after := #[{ on := 14, ground := Ground.guard }], guard := some (14, true) }) (v := ?_) rfl (by kernel_rfl) (by kernel_rfl) (by kernel_rfl) (fun _ _ _ h => h) (Or.inl ⟨by rfl, ?_⟩) (by assumption) ?_
  rotate_left
  · intro w hSw
    (try dsimp only at hSw)
    first | (go_simp; done) | (go_simp; with_reducible rfl)
  (try simp only [Act.put, List.setIfInBounds_toArray, List.set_cons_zero, List.set_cons_succ])
  refine wpAnyH_take (i := 25) (oi := { dst := some 81, op := Op.fieldAddr 26 (Operand.tmp 4) 1, type := 0, pos := "laws.go:1297", after := #[{ on := 14, ground := Ground.guard }], guard := some (14, true) }) (v := ?_) rfl (by kernel_rfl) (by kernel_rfl) (by kernel_rfl) (fun _ _ _ h => h) (Or.inl ⟨by rfl, ?_⟩) (by assumption) ?_
  rotate_left
  · intro w hSw
    (try dsimp only at hSw)
    first | (go_simp; done) | (go_simp; with_reducible rfl)
  (try simp only [Act.put, List.setIfInBounds_toArray, List.set_cons_zero, List.set_cons_succ])
  refine wpAnyH_take (i := 26) (oi := { dst := some 82, op := Op.load 2 (Operand.tmp 81), type := 2, pos := "laws.go:1297", after := #[{ on := 25, ground := Ground.data }, { on := 14, ground := Ground.guard }], guard := some (14, true) }) (v := ?_) rfl (by kernel_rfl) (by kernel_rfl) (by kernel_rfl) (fun _ _ _ h => h) (Or.inl ⟨by rfl, ?_⟩) (by assumption) ?_
  rotate_left
  · intro w hSw
    (try dsimp only at hSw)
    first | (go_simp; done) | (go_simp; with_reducible rfl)
  (try simp only [Act.put, List.setIfInBounds_toArray, List.set_cons_zero, List.set_cons_succ])
  refine wpAnyH_take (i := 27) (oi := { dst := some 83, op := Op.binOp BinOp.add 2 (Operand.tmp 80) (Operand.tmp 82) 2, type := 2, pos := "laws.go:1297", after := #[{ on := 24, ground := Ground.data }, { on := 26, ground := Ground.data }, { on := 14, ground := Ground.guard }], guard := some (14, true) }) (v := ?_) rfl (by kernel_rfl) (by kernel_rfl) (by kernel_rfl) (fun _ _ _ h => h) (Or.inl ⟨by rfl, ?_⟩) (by assumption) ?_
  rotate_left
  · intro w hSw
    (try dsimp only at hSw)
    first | (go_simp; done) | (go_simp; with_reducible rfl)
  (try simp only [Act.put, List.setIfInBounds_toArray, List.set_cons_zero, List.set_cons_succ])
  refine wpAnyH_ready (rs := [23]) (by kernel_rfl) (by simp) ?_
  refine AllReadyH.cons (o := { dst := some 79, op := Op.call { callee := Callee.value (Operand.func 18), args := #[Operand.tmp 77, Operand.tmp 78], argTypes := #[2, 26] }, type := 2, pos := "laws.go:1297", after := #[{ on := 21, ground := Ground.data }, { on := 22, ground := Ground.data }, { on := 14, ground := Ground.chain }, { on := 14, ground := Ground.guard }], guard := some (14, true) }) rfl (fun K hK => ?_) AllReadyH.nil
  go_simp
  go_at_call 18
  refine HPd.out.mono ?_
  rintro e w9 ⟨rfl, hb9x⟩
  have hS2 : w9.cell? ⟨b4, 0, none⟩ = some (.string s) ∧ w9.cell? ⟨b4, 1, none⟩ = some (.int .i64 b) ∧ w9.cell? ⟨b4, 2, none⟩ = some (.int .i64 f) := ⟨(hb9x.cell (block_lt_of_cell hS.1)).trans hS.1, (hb9x.cell (block_lt_of_cell hS.2.1)).trans hS.2.1, (hb9x.cell (block_lt_of_cell hS.2.2)).trans hS.2.2⟩
  have HB9 := Lib.hid (HB8.out.trans ((Below.mk hb9x.os hb9x.tape hb9x.output hb9x.size hb9x.block : Below w8.heap.size w8 w9).mono HB8.out.size))
  refine hK.out _ _ hS2 (fun hHeld2 => ?_)
  clear hK K
  (try simp only [Act.put, List.setIfInBounds_toArray, List.set_cons_zero, List.set_cons_succ])
  refine wpAnyH_take (i := 28) (oi := { dst := some 84, op := Op.binOp BinOp.eql 2 (Operand.tmp 79) (Operand.tmp 83) 2, type := 4, pos := "laws.go:1297", after := #[{ on := 23, ground := Ground.data }, { on := 27, ground := Ground.data }, { on := 14, ground := Ground.guard }], guard := some (14, true) }) (v := ?_) rfl (by kernel_rfl) (by kernel_rfl) (by kernel_rfl) (fun _ _ _ h => h) (Or.inl ⟨by rfl, ?_⟩) (by assumption) ?_
  rotate_left
  · intro w hSw
    (try dsimp only at hSw)
    first | (go_simp; done) | (go_simp; with_reducible rfl)
  (try simp only [Act.put, List.setIfInBounds_toArray, List.set_cons_zero, List.set_cons_succ])
  refine wpAnyH_take (i := 29) (oi := { dst := some 85, op := Op.pick (Operand.tmp 70) (Operand.tmp 84) (Operand.const (Value.bool false)), type := 4, pos := "laws.go:1297", after := #[{ on := 14, ground := Ground.data }, { on := 28, ground := Ground.data }], guard := none }) (v := ?_) rfl (by kernel_rfl) (by kernel_rfl) (by kernel_rfl) (fun _ _ _ h => h) (Or.inl ⟨by rfl, ?_⟩) (by assumption) ?_
  rotate_left
  · intro w hSw
    (try dsimp only at hSw)
    first | (go_simp; done) | (go_simp; with_reducible rfl)
  (try simp only [Act.put, List.setIfInBounds_toArray, List.set_cons_zero, List.set_cons_succ])
  refine wpAnyH_take (i := 30) (oi := { dst := some 2, op := Op.assign (Operand.tmp 85), type := 4, pos := "laws.go:1297", after := #[{ on := 29, ground := Ground.data }, { on := 23, ground := Ground.chain }, { on := 0, ground := Ground.phase }, { on := 1, ground := Ground.phase }, { on := 2, ground := Ground.phase }, { on := 3, ground := Ground.phase }, { on := 4, ground := Ground.phase }, { on := 5, ground := Ground.phase }, { on := 6, ground := Ground.phase }, { on := 7, ground := Ground.phase }, { on := 8, ground := Ground.phase }, { on := 9, ground := Ground.phase }, { on := 10, ground := Ground.phase }, { on := 11, ground := Ground.phase }, { on := 12, ground := Ground.phase }, { on := 13, ground := Ground.phase }, { on := 14, ground := Ground.phase }, { on := 15, ground := Ground.phase }, { on := 16, ground := Ground.phase }, { on := 17, ground := Ground.phase }, { on := 18, ground := Ground.phase }, { on := 19, ground := Ground.phase }, { on := 20, ground := Ground.phase }, { on := 21, ground := Ground.phase }, { on := 22, ground := Ground.phase }, { on := 23, ground := Ground.phase }, { on := 24, ground := Ground.phase }, { on := 25, ground := Ground.phase }, { on := 26, ground := Ground.phase }, { on := 27, ground := Ground.phase }, { on := 28, ground := Ground.phase }, { on := 29, ground := Ground.phase }], guard := none }) (v := ?_) rfl (by kernel_rfl) (by kernel_rfl) (by kernel_rfl) (fun _ _ _ h => h) (Or.inl ⟨by rfl, ?_⟩) (by assumption) ?_
  rotate_left
  · intro w hSw
    (try dsimp only at hSw)
    first | (go_simp; done) | (go_simp; with_reducible rfl)
  (try simp only [Act.put, List.setIfInBounds_toArray, List.set_cons_zero, List.set_cons_succ])
  refine wpAnyH_done (by kernel_rfl) ?_ _
  clear hS hS2 hHeld2 hb9x
  refine hKR _ _ ?_
  go_wp2
  go_ret
  exact ⟨rfl, HB9.out⟩
end Go.Proofs.Ytjmilgijdfibbaa
