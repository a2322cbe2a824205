/- Offers that are drawn: the walks of spec.DrawPaid and of the law FnTogether. -/
import Derived.Test.YtjmilgijdfibbaaOffDraw
import Derived.Test.YtjmilgijdfibbaaPaidM
namespace Go.Proofs.Ytjmilgijdfibbaa
open Go.RowKit
set_option linter.unusedVariables false
set_option linter.unusedSimpArgs false

theorem trip {w : World} {g : Nat} {T : TypeId} {a b c : Value} (h : w.heap[g]? = some (.cells #[a, b, c] T (0, 0))) :
    (w.cell? ⟨g, 0, none⟩ = some a ∧ w.cell? ⟨g, 1, none⟩ = some b ∧ w.cell? ⟨g, 2, none⟩ = some c) ∧ ∀ i, w.frozen? ⟨g, i, none⟩ = false :=
  ⟨⟨(cell_of_row _ _ _ _ _ _ h).trans rfl, (cell_of_row _ _ _ _ _ _ h).trans rfl, (cell_of_row _ _ _ _ _ _ h).trans rfl⟩, fun i => frozen_of_row _ _ _ _ _ h⟩
def tripSet (w : World) (g : Nat) (a b c : Value) : World := ((w.setCell ⟨g, 0, none⟩ a).setCell ⟨g, 1, none⟩ b).setCell ⟨g, 2, none⟩ c
theorem tripSet_same {w : World} {g : Nat} {T : TypeId} {a b c : Value} (x y z : Value) (h : w.heap[g]? = some (.cells #[a, b, c] T (0, 0))) : (tripSet w g x y z).heap[g]? = some (.cells #[x, y, z] T (0, 0)) := by
  have h0 := heap_setCell_same _ _ 0 _ _ x h
  have h1 := heap_setCell_same _ _ 1 _ _ y h0
  have h2 := heap_setCell_same _ _ 2 _ _ z h1
  exact h2
theorem tripSet_other {w : World} {g k : Nat} (x y z : Value) (h : k ≠ g) : (tripSet w g x y z).heap[k]? = w.heap[k]? :=
  (heap_setCell_other _ _ _ _ h).trans ((heap_setCell_other _ _ _ _ h).trans (heap_setCell_other _ _ _ _ h))
theorem tripSet_below {B : Nat} {w0 w : World} {g : Nat} (x y z : Value) (h : Below B w0 w) (hg : B ≤ g) : Below B w0 (tripSet w g x y z) :=
  ((h.setCell (p := ⟨g, 0, none⟩) hg _).setCell (p := ⟨g, 1, none⟩) hg _).setCell (p := ⟨g, 2, none⟩) hg _
/-- What DrawPaid answers. -/
def DrawsPaid (w : World) (e : Ending) (w' : World) : Prop :=
  ∃ (q : Int) (s : ByteArray) (b f : Int), e = .returned (.tuple #[.int .i64 q, .agg #[.string s, .int .i64 b, .int .i64 f]]) ∧ s.size ≤ 8 ∧ Below w.heap.size w w'
set_option maxRecDepth 100000 in
set_option maxHeartbeats 4000000 in
theorem drawPaid (w : World) (B : Nat) (a : Option Addr) (len cap : Nat) (hB : B ≤ w.heap.size) (h : Src w B a len) :
    Calls Try.prog 32 #[.slice a len cap] w (DrawsPaid w) := by
  have hb0 : Below w.heap.size w (w.alloc (.cells #[.string ⟨#[]⟩, .int .i64 0, .int .i64 0] 26)) := (Below.refl _ w).alloc (Nat.le_refl _) _
  have HS0 := Lib.hid (h.kept (w' := w.alloc (.cells #[.string ⟨#[]⟩, .int .i64 0, .int .i64 0] 26)) fun k hk => hb0.block k (by omega))
  have HR0 := Lib.hid (heap_alloc_new w (.cells #[.string ⟨#[]⟩, .int .i64 0, .int .i64 0] 26))
  have HB0 := Lib.hid hb0
  have hz0 : (w.alloc (.cells #[.string ⟨#[]⟩, .int .i64 0, .int .i64 0] 26)).heap.size = w.heap.size + 1 := by show (w.heap.push _).size = _; simp
  clear h hb0
  go_enter Try.func32, Try.ntmps32
  go_wp2_with fail
  generalize w.alloc (.cells #[.string ⟨#[]⟩, .int .i64 0, .int .i64 0] 26) = w0 at HS0 HR0 HB0 hz0 ⊢
  refine (l1Open w0 B a len cap (by omega) HS0.out).mono ?_
  rintro e w1 ⟨rfl, hg1, hr1⟩
  have HR1 := Lib.hid ((hg1.block _ (by omega) (by intro e; cases e)).trans HR0.out)
  have HB1 := Lib.hid (HB0.out.grown hg1 (by omega) (fun k hk => by cases hk))
  have hs1 := hg1.size
  have hgl := hr1.lt
  have HRd1 := Lib.hid hr1
  obtain ⟨g, hg⟩ : ∃ g, w0.heap.size = g := ⟨_, rfl⟩
  rw [hg] at HRd1 hgl ⊢
  have hgw : w.heap.size < g := by omega
  clear hg1 hr1 HS0 HR0 HB0 hg
  go_wp2_with fail
  refine (offers w1 B g a len cap HRd1.out).mono ?_
  rintro e w2 ⟨va, k, vc, l, hk, rfl, hI⟩
  have HR2 := Lib.hid ((hI.grown.block _ (by omega) (by intro e; injection e with e; omega)).trans HR1.out)
  have HB2 := Lib.hid (HB1.out.grown hI.grown HB1.out.size (fun k hk => by cases hk; omega))
  have hs2 := hI.grown.size
  have HI2 := Lib.hid hI
  have hb3 : Below w2.heap.size w2 (w2.alloc (.cells #[.string ⟨#[116, 101, 97]⟩, .int .i64 2, .int .i64 1] 26)) := (Below.refl _ _).alloc (Nat.le_refl _) _
  have HX3 := Lib.hid (heap_alloc_new w2 (.cells #[.string ⟨#[116, 101, 97]⟩, .int .i64 2, .int .i64 1] 26))
  have HI3 := Lib.hid (hI.alloc (.cells #[.string ⟨#[116, 101, 97]⟩, .int .i64 2, .int .i64 1] 26))
  have HR3 := Lib.hid ((hb3.block _ (by omega)).trans HR2.out)
  have HB3 := Lib.hid (HB2.out.trans (hb3.mono HB2.out.size))
  clear hI hb3 HR1 HB1 HR2 HB2 HI2
  go_upto_region 4 with fail
  generalize w2.alloc (.cells #[.string ⟨#[116, 101, 97]⟩, .int .i64 2, .int .i64 1] 26) = w3 at HX3 HI3 HR3 HB3 ⊢
  obtain ⟨b6, hb6⟩ : ∃ q, w2.heap.size = q := ⟨_, rfl⟩
  rw [hb6] at HX3 ⊢
  have hg6 : g < b6 := by omega
  clear hb6
  have HRd3 := Lib.hid HI3.out.rd
  have hBg := HRd3.out.own
  by_cases h0 : k = 0
  · subst h0
    go_wp2_with fail
    refine (once w3 B g a len cap HRd3.out 6 (by omega) (by omega)).mono ?_
    rintro e w5 ⟨o1, rfl, hg5, hr5⟩
    have HX5 := Lib.hid ((hg5.block _ (lt_of_block HX3.out) (by intro e; injection e with e; omega)).trans HX3.out)
    have HR5 := Lib.hid ((hg5.block _ (lt_of_block HR3.out) (by intro e; injection e with e; omega)).trans HR3.out)
    have HB5 := Lib.hid (HB3.out.grown hg5 HB3.out.size (fun k hk => by cases hk; omega))
    have HRd5 := Lib.hid hr5
    clear hg5 hr5 HX3 HR3 HB3 HRd3
    rcases o1 with _ | _
    · skip
      go_upto_region 8 with fail
      rename_i KR hKR
      have hS : w5.drew.cell? ⟨b6, 0, none⟩ = some (.string ⟨#[116, 101, 97]⟩) ∧ w5.drew.cell? ⟨b6, 1, none⟩ = some (.int .i64 2) ∧ w5.drew.cell? ⟨b6, 2, none⟩ = some (.int .i64 1) := (trip (w := w5.drew) (g := b6) HX5.out).1
      refine wp_region_held_drew (S := fun w' => w'.cell? ⟨b6, 0, none⟩ = some (.string ⟨#[116, 101, 97]⟩) ∧ w'.cell? ⟨b6, 1, none⟩ = some (.int .i64 2) ∧ w'.cell? ⟨b6, 2, none⟩ = some (.int .i64 1)) (by kernel_rfl) hS (fun hHeld => ?_)
      clear hHeld
      refine wpAnyH_take (i := 0) (oi := { dst := some 23, op := Op.move (Operand.tmp 4), type := 95, pos := "l12_prices.go:142", after := #[], guard := none }) (v := ?_) rfl (by kernel_rfl) (by kernel_rfl) (by kernel_rfl) (fun _ _ _ h => h) (Or.inl ⟨by rfl, ?_⟩) (by assumption) ?_
      rotate_left
      · intro w hSw
        (try dsimp only at hSw)
        first | (go_simp; done) | (go_simp; with_reducible rfl)
      (try simp only [Act.put, List.setIfInBounds_toArray, List.set_cons_zero, List.set_cons_succ])
      refine wpAnyH_take (i := 2) (oi := { dst := some 25, op := Op.load 26 (Operand.tmp 6), type := 26, pos := "l12_prices.go:142", after := #[{ on := 3, ground := Ground.gcOnly Departure.lateStores }], guard := none }) (v := ?_) rfl (by kernel_rfl) (by kernel_rfl) (by kernel_rfl) (fun _ _ _ h => h) (Or.inl ⟨by rfl, ?_⟩) (by assumption) ?_
      rotate_left
      · intro w hSw
        (try dsimp only at hSw)
        first | (go_simp; done) | (go_simp; with_reducible rfl)
      (try simp only [Act.put, List.setIfInBounds_toArray, List.set_cons_zero, List.set_cons_succ])
      refine wpAnyH_ready (rs := [1]) (by kernel_rfl) (by simp) ?_
      refine AllReadyH.cons (o := { dst := some 24, op := Op.call { callee := Callee.value (Operand.func 77), args := #[Operand.tmp 23, Operand.const (Value.int IntKind.i64 30)], argTypes := #[95, 3] }, type := 3, pos := "l12_prices.go:142", after := #[{ on := 0, ground := Ground.data }], guard := none }) rfl (fun K hK => ?_) AllReadyH.nil
      go_simp
      go_at_call 77
      refine (belowI w5.drew B g a len cap (HRd5.out.kept fun _ _ => rfl) 30 (by omega) (by omega)).mono ?_
      rintro e w6 ⟨q, hq, rfl, hg6x, hr6⟩
      have HX6 := Lib.hid ((hg6x.block _ (by exact lt_of_block HX5.out) (by intro e; injection e with e; omega)).trans HX5.out)
      have HR6 := Lib.hid ((hg6x.block _ (by exact lt_of_block HR5.out) (by intro e; injection e with e; omega)).trans HR5.out)
      have HB6 := Lib.hid ((HB5.out.trans (⟨rfl, rfl, rfl, Nat.le_refl _, fun _ _ => rfl⟩ : Below w.heap.size w5 w5.drew)).grown hg6x HB5.out.size (fun k hk => by cases hk; omega))
      have hS2 : w6.cell? ⟨b6, 0, none⟩ = some (.string ⟨#[116, 101, 97]⟩) ∧ w6.cell? ⟨b6, 1, none⟩ = some (.int .i64 2) ∧ w6.cell? ⟨b6, 2, none⟩ = some (.int .i64 1) := (trip HX6.out).1
      refine hK.out _ _ hS2 (fun hHeld2 => ?_)
      clear hK K
      (try simp only [Act.put, List.setIfInBounds_toArray, List.set_cons_zero, List.set_cons_succ])
      refine wpAnyH_take (i := 3) (oi := { dst := some 2, op := Op.assign (Operand.tmp 24), type := 2, pos := "l12_prices.go:142", after := #[{ on := 1, ground := Ground.data }, { on := 1, ground := Ground.chain }, { on := 0, ground := Ground.phase }, { on := 1, ground := Ground.phase }, { on := 2, ground := Ground.textOnly Departure.lateStores }], guard := none }) (v := ?_) rfl (by kernel_rfl) (by kernel_rfl) (by kernel_rfl) (fun _ _ _ h => h) (Or.inl ⟨by rfl, ?_⟩) (by assumption) ?_
      rotate_left
      · intro w hSw
        (try dsimp only at hSw)
        first | (go_simp; done) | (go_simp; with_reducible rfl)
      (try simp only [Act.put, List.setIfInBounds_toArray, List.set_cons_zero, List.set_cons_succ])
      obtain ⟨⟨r0, r1, r2⟩, hfz⟩ := trip HR6.out
      have f0 := hfz 0
      have f1 := hfz 1
      have f2 := hfz 2
      have hS3 : (tripSet w6 w.heap.size (.string ⟨#[116, 101, 97]⟩) (.int .i64 2) (.int .i64 1)).cell? ⟨b6, 0, none⟩ = some (.string ⟨#[116, 101, 97]⟩) ∧ (tripSet w6 w.heap.size (.string ⟨#[116, 101, 97]⟩) (.int .i64 2) (.int .i64 1)).cell? ⟨b6, 1, none⟩ = some (.int .i64 2) ∧ (tripSet w6 w.heap.size (.string ⟨#[116, 101, 97]⟩) (.int .i64 2) (.int .i64 1)).cell? ⟨b6, 2, none⟩ = some (.int .i64 1) := (trip ((tripSet_other _ _ _ (by omega)).trans HX6.out)).1
      have HD := Lib.hid (tripSet_same (.string ⟨#[116, 101, 97]⟩) (.int .i64 2) (.int .i64 1) HR6.out)
      have HBf := Lib.hid (tripSet_below (.string ⟨#[116, 101, 97]⟩) (.int .i64 2) (.int .i64 1) HB6.out (Nat.le_refl _))
      unfold tripSet at hS3 HD HBf
      refine wpAnyH_ready (rs := [4]) (by kernel_rfl) (by simp) ?_
      refine AllReadyH.cons (o := { dst := none, op := Op.store 26 (Operand.tmp 3) (Operand.tmp 25), type := 0, pos := "l12_prices.go:142", after := #[{ on := 2, ground := Ground.data }, { on := 3, ground := Ground.chain }, { on := 0, ground := Ground.phase }, { on := 1, ground := Ground.phase }, { on := 2, ground := Ground.phase }, { on := 3, ground := Ground.phase }], guard := none }) rfl (fun K hK => ?_) AllReadyH.nil
      go_simp
      refine hK.out _ _ hS3 (fun hHeld3 => ?_)
      clear hK K
      (try simp only [Act.put, List.setIfInBounds_toArray, List.set_cons_zero, List.set_cons_succ])
      refine wpAnyH_done (by kernel_rfl) ?_ _
      generalize ((w6.setCell ⟨w.heap.size, 0, none⟩ (.string ⟨#[116, 101, 97]⟩)).setCell ⟨w.heap.size, 1, none⟩ (.int .i64 2)).setCell ⟨w.heap.size, 2, none⟩ (.int .i64 1) = wf at HD HBf ⊢
      clear r0 r1 r2 f0 f1 f2 hfz hS hS2 hS3 hHeld2 hHeld3
      obtain ⟨⟨r0, r1, r2⟩, _⟩ := trip HD.out
      refine hKR _ _ ?_
      go_wp2
      exact bodyPost_ret (v := .tuple #[.int .i64 _, .agg #[.string ⟨#[116, 101, 97]⟩, .int .i64 2, .int .i64 1]]) (by simp [results, Try.results32, go_sem, r0, r1, r2]; rfl) rfl ⟨_, ⟨#[116, 101, 97]⟩, 2, 1, rfl, (by decide), HBf.out⟩
    · skip
      go_upto_region 7 with fail
      rename_i KR hKR
      have hS : w5.drew.cell? ⟨b6, 0, none⟩ = some (.string ⟨#[116, 101, 97]⟩) ∧ w5.drew.cell? ⟨b6, 1, none⟩ = some (.int .i64 2) ∧ w5.drew.cell? ⟨b6, 2, none⟩ = some (.int .i64 1) := (trip (w := w5.drew) (g := b6) HX5.out).1
      refine wp_region_held_drew (S := fun w' => w'.cell? ⟨b6, 0, none⟩ = some (.string ⟨#[116, 101, 97]⟩) ∧ w'.cell? ⟨b6, 1, none⟩ = some (.int .i64 2) ∧ w'.cell? ⟨b6, 2, none⟩ = some (.int .i64 1)) (by kernel_rfl) hS (fun hHeld => ?_)
      clear hHeld
      refine wpAnyH_take (i := 0) (oi := { dst := some 20, op := Op.move (Operand.tmp 4), type := 95, pos := "l12_prices.go:140", after := #[], guard := none }) (v := ?_) rfl (by kernel_rfl) (by kernel_rfl) (by kernel_rfl) (fun _ _ _ h => h) (Or.inl ⟨by rfl, ?_⟩) (by assumption) ?_
      rotate_left
      · intro w hSw
        (try dsimp only at hSw)
        first | (go_simp; done) | (go_simp; with_reducible rfl)
      (try simp only [Act.put, List.setIfInBounds_toArray, List.set_cons_zero, List.set_cons_succ])
      refine wpAnyH_take (i := 2) (oi := { dst := some 22, op := Op.load 26 (Operand.tmp 6), type := 26, pos := "l12_prices.go:140", after := #[{ on := 3, ground := Ground.gcOnly Departure.lateStores }], guard := none }) (v := ?_) rfl (by kernel_rfl) (by kernel_rfl) (by kernel_rfl) (fun _ _ _ h => h) (Or.inl ⟨by rfl, ?_⟩) (by assumption) ?_
      rotate_left
      · intro w hSw
        (try dsimp only at hSw)
        first | (go_simp; done) | (go_simp; with_reducible rfl)
      (try simp only [Act.put, List.setIfInBounds_toArray, List.set_cons_zero, List.set_cons_succ])
      refine wpAnyH_ready (rs := [1]) (by kernel_rfl) (by simp) ?_
      refine AllReadyH.cons (o := { dst := some 21, op := Op.call { callee := Callee.value (Operand.func 76), args := #[Operand.tmp 20, Operand.const (Value.int IntKind.i64 0), Operand.const (Value.int IntKind.i64 999)], argTypes := #[95, 2, 2] }, type := 2, pos := "l12_prices.go:140", after := #[{ on := 0, ground := Ground.data }], guard := none }) rfl (fun K hK => ?_) AllReadyH.nil
      go_simp
      go_at_call 76
      refine (off999 w5.drew B g a len cap (HRd5.out.kept fun _ _ => rfl)).mono ?_
      rintro e w6 ⟨q, rfl, hg6x, hr6⟩
      have HX6 := Lib.hid ((hg6x.block _ (by exact lt_of_block HX5.out) (by intro e; injection e with e; omega)).trans HX5.out)
      have HR6 := Lib.hid ((hg6x.block _ (by exact lt_of_block HR5.out) (by intro e; injection e with e; omega)).trans HR5.out)
      have HB6 := Lib.hid ((HB5.out.trans (⟨rfl, rfl, rfl, Nat.le_refl _, fun _ _ => rfl⟩ : Below w.heap.size w5 w5.drew)).grown hg6x HB5.out.size (fun k hk => by cases hk; omega))
      have hS2 : w6.cell? ⟨b6, 0, none⟩ = some (.string ⟨#[116, 101, 97]⟩) ∧ w6.cell? ⟨b6, 1, none⟩ = some (.int .i64 2) ∧ w6.cell? ⟨b6, 2, none⟩ = some (.int .i64 1) := (trip HX6.out).1
      refine hK.out _ _ hS2 (fun hHeld2 => ?_)
      clear hK K
      (try simp only [Act.put, List.setIfInBounds_toArray, List.set_cons_zero, List.set_cons_succ])
      refine wpAnyH_take (i := 3) (oi := { dst := some 2, op := Op.assign (Operand.tmp 21), type := 2, pos := "l12_prices.go:140", after := #[{ on := 1, ground := Ground.data }, { on := 1, ground := Ground.chain }, { on := 0, ground := Ground.phase }, { on := 1, ground := Ground.phase }, { on := 2, ground := Ground.textOnly Departure.lateStores }], guard := none }) (v := ?_) rfl (by kernel_rfl) (by kernel_rfl) (by kernel_rfl) (fun _ _ _ h => h) (Or.inl ⟨by rfl, ?_⟩) (by assumption) ?_
      rotate_left
      · intro w hSw
        (try dsimp only at hSw)
        first | (go_simp; done) | (go_simp; with_reducible rfl)
      (try simp only [Act.put, List.setIfInBounds_toArray, List.set_cons_zero, List.set_cons_succ])
      obtain ⟨⟨r0, r1, r2⟩, hfz⟩ := trip HR6.out
      have f0 := hfz 0
      have f1 := hfz 1
      have f2 := hfz 2
      have hS3 : (tripSet w6 w.heap.size (.string ⟨#[116, 101, 97]⟩) (.int .i64 2) (.int .i64 1)).cell? ⟨b6, 0, none⟩ = some (.string ⟨#[116, 101, 97]⟩) ∧ (tripSet w6 w.heap.size (.string ⟨#[116, 101, 97]⟩) (.int .i64 2) (.int .i64 1)).cell? ⟨b6, 1, none⟩ = some (.int .i64 2) ∧ (tripSet w6 w.heap.size (.string ⟨#[116, 101, 97]⟩) (.int .i64 2) (.int .i64 1)).cell? ⟨b6, 2, none⟩ = some (.int .i64 1) := (trip ((tripSet_other _ _ _ (by omega)).trans HX6.out)).1
      have HD := Lib.hid (tripSet_same (.string ⟨#[116, 101, 97]⟩) (.int .i64 2) (.int .i64 1) HR6.out)
      have HBf := Lib.hid (tripSet_below (.string ⟨#[116, 101, 97]⟩) (.int .i64 2) (.int .i64 1) HB6.out (Nat.le_refl _))
      unfold tripSet at hS3 HD HBf
      refine wpAnyH_ready (rs := [4]) (by kernel_rfl) (by simp) ?_
      refine AllReadyH.cons (o := { dst := none, op := Op.store 26 (Operand.tmp 3) (Operand.tmp 22), type := 0, pos := "l12_prices.go:140", after := #[{ on := 2, ground := Ground.data }, { on := 3, ground := Ground.chain }, { on := 0, ground := Ground.phase }, { on := 1, ground := Ground.phase }, { on := 2, ground := Ground.phase }, { on := 3, ground := Ground.phase }], guard := none }) rfl (fun K hK => ?_) AllReadyH.nil
      go_simp
      refine hK.out _ _ hS3 (fun hHeld3 => ?_)
      clear hK K
      (try simp only [Act.put, List.setIfInBounds_toArray, List.set_cons_zero, List.set_cons_succ])
      refine wpAnyH_done (by kernel_rfl) ?_ _
      generalize ((w6.setCell ⟨w.heap.size, 0, none⟩ (.string ⟨#[116, 101, 97]⟩)).setCell ⟨w.heap.size, 1, none⟩ (.int .i64 2)).setCell ⟨w.heap.size, 2, none⟩ (.int .i64 1) = wf at HD HBf ⊢
      clear r0 r1 r2 f0 f1 f2 hfz hS hS2 hS3 hHeld2 hHeld3
      obtain ⟨⟨r0, r1, r2⟩, _⟩ := trip HD.out
      refine hKR _ _ ?_
      go_wp2
      exact bodyPost_ret (v := .tuple #[.int .i64 _, .agg #[.string ⟨#[116, 101, 97]⟩, .int .i64 2, .int .i64 1]]) (by simp [results, Try.results32, go_sem, r0, r1, r2]; rfl) rfl ⟨_, ⟨#[116, 101, 97]⟩, 2, 1, rfl, (by decide), HBf.out⟩
  have hk0 : (0 : Int) < (k : Int) := by omega
  obtain ⟨q0, hq⟩ : ∃ q, va = some ⟨q, 0, none⟩ := by
    obtain ⟨va', vc', e, hf⟩ := HI3.out.form
    injection e with e1 e2 e3
    subst e1
    exact hf (by omega)
  subst hq
  obtain ⟨x, l', rfl⟩ : ∃ x l', l = x :: l' := by
    cases l with
    | nil => have := HI3.out.num; simp at this; omega
    | cons x l' => exact ⟨x, l', rfl⟩
  have hx8 : x.item.size ≤ 8 := HI3.out.items 0 (by omega)
  have c0 : w3.cell? ⟨q0, 0, none⟩ = some (.string x.item) := (HI3.out.own.cellAt 0 (by omega)).trans rfl
  have c1 : w3.cell? ⟨q0, 1, none⟩ = some (.int .i64 x.buy) := (HI3.out.own.cellAt 1 (by omega)).trans rfl
  have c2 : w3.cell? ⟨q0, 2, none⟩ = some (.int .i64 x.free) := (HI3.out.own.cellAt 2 (by omega)).trans rfl
  obtain ⟨⟨e0, e1, e2⟩, hfz⟩ := trip HX3.out
  have f0 := hfz 0
  have f1 := hfz 1
  have f2 := hfz 2
  have HX4 := Lib.hid (tripSet_same (.string x.item) (.int .i64 x.buy) (.int .i64 x.free) HX3.out)
  have HR4 := Lib.hid ((tripSet_other (w := w3) (g := b6) (.string x.item) (.int .i64 x.buy) (.int .i64 x.free) (by omega)).trans HR3.out)
  have HB4 := Lib.hid (tripSet_below (g := b6) (.string x.item) (.int .i64 x.buy) (.int .i64 x.free) HB3.out (by omega))
  have HRd4 := Lib.hid (HRd3.out.kept (w' := tripSet w3 b6 (.string x.item) (.int .i64 x.buy) (.int .i64 x.free)) fun k hk => tripSet_other _ _ _ (by omega))
  unfold tripSet at HX4 HR4 HB4 HRd4
  have HI4 := HI3
  clear hfz
  go_upto_region 6 with fail
  generalize ((w3.setCell ⟨b6, 0, none⟩ (.string x.item)).setCell ⟨b6, 1, none⟩ (.int .i64 x.buy)).setCell ⟨b6, 2, none⟩ (.int .i64 x.free) = w4 at HX4 HR4 HB4 HRd4 ⊢
  clear c0 c1 c2 e0 e1 e2 f0 f1 f2 HI4
  obtain ⟨item, buy, free⟩ := x
  simp only at hx8 HX4 ⊢
  go_wp2_with fail
  refine (once w4 B g a len cap HRd4.out 6 (by omega) (by omega)).mono ?_
  rintro e w5 ⟨o1, rfl, hg5, hr5⟩
  have HX5 := Lib.hid ((hg5.block _ (lt_of_block HX4.out) (by intro e; injection e with e; omega)).trans HX4.out)
  have HR5 := Lib.hid ((hg5.block _ (lt_of_block HR4.out) (by intro e; injection e with e; omega)).trans HR4.out)
  have HB5 := Lib.hid (HB4.out.grown hg5 HB4.out.size (fun k hk => by cases hk; omega))
  have HRd5 := Lib.hid hr5
  clear hg5 hr5 HX4 HR4 HB4 HRd4
  rcases o1 with _ | _
  · skip
    go_upto_region 8 with fail
    rename_i KR hKR
    have hS : w5.drew.cell? ⟨b6, 0, none⟩ = some (.string item) ∧ w5.drew.cell? ⟨b6, 1, none⟩ = some (.int .i64 buy) ∧ w5.drew.cell? ⟨b6, 2, none⟩ = some (.int .i64 free) := (trip (w := w5.drew) (g := b6) HX5.out).1
    refine wp_region_held_drew (S := fun w' => w'.cell? ⟨b6, 0, none⟩ = some (.string item) ∧ w'.cell? ⟨b6, 1, none⟩ = some (.int .i64 buy) ∧ w'.cell? ⟨b6, 2, none⟩ = some (.int .i64 free)) (by kernel_rfl) hS (fun hHeld => ?_)
    clear hHeld
    refine wpAnyH_take (i := 0) (oi := { dst := some 23, op := Op.move (Operand.tmp 4), type := 95, pos := "l12_prices.go:142", after := #[], guard := none }) (v := ?_) rfl (by kernel_rfl) (by kernel_rfl) (by kernel_rfl) (fun _ _ _ h => h) (Or.inl ⟨by rfl, ?_⟩) (by assumption) ?_
    rotate_left
    · intro w hSw
      (try dsimp only at hSw)
      first | (go_simp; done) | (go_simp; with_reducible rfl)
    (try simp only [Act.put, List.setIfInBounds_toArray, List.set_cons_zero, List.set_cons_succ])
    refine wpAnyH_take (i := 2) (oi := { dst := some 25, op := Op.load 26 (Operand.tmp 6), type := 26, pos := "l12_prices.go:142", after := #[{ on := 3, ground := Ground.gcOnly Departure.lateStores }], guard := none }) (v := ?_) rfl (by kernel_rfl) (by kernel_rfl) (by kernel_rfl) (fun _ _ _ h => h) (Or.inl ⟨by rfl, ?_⟩) (by assumption) ?_
    rotate_left
    · intro w hSw
      (try dsimp only at hSw)
      first | (go_simp; done) | (go_simp; with_reducible rfl)
    (try simp only [Act.put, List.setIfInBounds_toArray, List.set_cons_zero, List.set_cons_succ])
    refine wpAnyH_ready (rs := [1]) (by kernel_rfl) (by simp) ?_
    refine AllReadyH.cons (o := { dst := some 24, op := Op.call { callee := Callee.value (Operand.func 77), args := #[Operand.tmp 23, Operand.const (Value.int IntKind.i64 30)], argTypes := #[95, 3] }, type := 3, pos := "l12_prices.go:142", after := #[{ on := 0, ground := Ground.data }], guard := none }) rfl (fun K hK => ?_) AllReadyH.nil
    go_simp
    go_at_call 77
    refine (belowI w5.drew B g a len cap (HRd5.out.kept fun _ _ => rfl) 30 (by omega) (by omega)).mono ?_
    rintro e w6 ⟨q, hq, rfl, hg6x, hr6⟩
    have HX6 := Lib.hid ((hg6x.block _ (by exact lt_of_block HX5.out) (by intro e; injection e with e; omega)).trans HX5.out)
    have HR6 := Lib.hid ((hg6x.block _ (by exact lt_of_block HR5.out) (by intro e; injection e with e; omega)).trans HR5.out)
    have HB6 := Lib.hid ((HB5.out.trans (⟨rfl, rfl, rfl, Nat.le_refl _, fun _ _ => rfl⟩ : Below w.heap.size w5 w5.drew)).grown hg6x HB5.out.size (fun k hk => by cases hk; omega))
    have hS2 : w6.cell? ⟨b6, 0, none⟩ = some (.string item) ∧ w6.cell? ⟨b6, 1, none⟩ = some (.int .i64 buy) ∧ w6.cell? ⟨b6, 2, none⟩ = some (.int .i64 free) := (trip HX6.out).1
    refine hK.out _ _ hS2 (fun hHeld2 => ?_)
    clear hK K
    (try simp only [Act.put, List.setIfInBounds_toArray, List.set_cons_zero, List.set_cons_succ])
    refine wpAnyH_take (i := 3) (oi := { dst := some 2, op := Op.assign (Operand.tmp 24), type := 2, pos := "l12_prices.go:142", after := #[{ on := 1, ground := Ground.data }, { on := 1, ground := Ground.chain }, { on := 0, ground := Ground.phase }, { on := 1, ground := Ground.phase }, { on := 2, ground := Ground.textOnly Departure.lateStores }], guard := none }) (v := ?_) rfl (by kernel_rfl) (by kernel_rfl) (by kernel_rfl) (fun _ _ _ h => h) (Or.inl ⟨by rfl, ?_⟩) (by assumption) ?_
    rotate_left
    · intro w hSw
      (try dsimp only at hSw)
      first | (go_simp; done) | (go_simp; with_reducible rfl)
    (try simp only [Act.put, List.setIfInBounds_toArray, List.set_cons_zero, List.set_cons_succ])
    obtain ⟨⟨r0, r1, r2⟩, hfz⟩ := trip HR6.out
    have f0 := hfz 0
    have f1 := hfz 1
    have f2 := hfz 2
    have hS3 : (tripSet w6 w.heap.size (.string item) (.int .i64 buy) (.int .i64 free)).cell? ⟨b6, 0, none⟩ = some (.string item) ∧ (tripSet w6 w.heap.size (.string item) (.int .i64 buy) (.int .i64 free)).cell? ⟨b6, 1, none⟩ = some (.int .i64 buy) ∧ (tripSet w6 w.heap.size (.string item) (.int .i64 buy) (.int .i64 free)).cell? ⟨b6, 2, none⟩ = some (.int .i64 free) := (trip ((tripSet_other _ _ _ (by omega)).trans HX6.out)).1
    have HD := Lib.hid (tripSet_same (.string item) (.int .i64 buy) (.int .i64 free) HR6.out)
    have HBf := Lib.hid (tripSet_below (.string item) (.int .i64 buy) (.int .i64 free) HB6.out (Nat.le_refl _))
    unfold tripSet at hS3 HD HBf
    refine wpAnyH_ready (rs := [4]) (by kernel_rfl) (by simp) ?_
    refine AllReadyH.cons (o := { dst := none, op := Op.store 26 (Operand.tmp 3) (Operand.tmp 25), type := 0, pos := "l12_prices.go:142", after := #[{ on := 2, ground := Ground.data }, { on := 3, ground := Ground.chain }, { on := 0, ground := Ground.phase }, { on := 1, ground := Ground.phase }, { on := 2, ground := Ground.phase }, { on := 3, ground := Ground.phase }], guard := none }) rfl (fun K hK => ?_) AllReadyH.nil
    go_simp
    refine hK.out _ _ hS3 (fun hHeld3 => ?_)
    clear hK K
    (try simp only [Act.put, List.setIfInBounds_toArray, List.set_cons_zero, List.set_cons_succ])
    refine wpAnyH_done (by kernel_rfl) ?_ _
    generalize ((w6.setCell ⟨w.heap.size, 0, none⟩ (.string item)).setCell ⟨w.heap.size, 1, none⟩ (.int .i64 buy)).setCell ⟨w.heap.size, 2, none⟩ (.int .i64 free) = wf at HD HBf ⊢
    clear r0 r1 r2 f0 f1 f2 hfz hS hS2 hS3 hHeld2 hHeld3
    obtain ⟨⟨r0, r1, r2⟩, _⟩ := trip HD.out
    refine hKR _ _ ?_
    go_wp2
    exact bodyPost_ret (v := .tuple #[.int .i64 _, .agg #[.string item, .int .i64 buy, .int .i64 free]]) (by simp [results, Try.results32, go_sem, r0, r1, r2]; rfl) rfl ⟨_, item, buy, free, rfl, hx8, HBf.out⟩
  · skip
    go_upto_region 7 with fail
    rename_i KR hKR
    have hS : w5.drew.cell? ⟨b6, 0, none⟩ = some (.string item) ∧ w5.drew.cell? ⟨b6, 1, none⟩ = some (.int .i64 buy) ∧ w5.drew.cell? ⟨b6, 2, none⟩ = some (.int .i64 free) := (trip (w := w5.drew) (g := b6) HX5.out).1
    refine wp_region_held_drew (S := fun w' => w'.cell? ⟨b6, 0, none⟩ = some (.string item) ∧ w'.cell? ⟨b6, 1, none⟩ = some (.int .i64 buy) ∧ w'.cell? ⟨b6, 2, none⟩ = some (.int .i64 free)) (by kernel_rfl) hS (fun hHeld => ?_)
    clear hHeld
    refine wpAnyH_take (i := 0) (oi := { dst := some 20, op := Op.move (Operand.tmp 4), type := 95, pos := "l12_prices.go:140", after := #[], guard := none }) (v := ?_) rfl (by kernel_rfl) (by kernel_rfl) (by kernel_rfl) (fun _ _ _ h => h) (Or.inl ⟨by rfl, ?_⟩) (by assumption) ?_
    rotate_left
    · intro w hSw
      (try dsimp only at hSw)
      first | (go_simp; done) | (go_simp; with_reducible rfl)
    (try simp only [Act.put, List.setIfInBounds_toArray, List.set_cons_zero, List.set_cons_succ])
    refine wpAnyH_take (i := 2) (oi := { dst := some 22, op := Op.load 26 (Operand.tmp 6), type := 26, pos := "l12_prices.go:140", after := #[{ on := 3, ground := Ground.gcOnly Departure.lateStores }], guard := none }) (v := ?_) rfl (by kernel_rfl) (by kernel_rfl) (by kernel_rfl) (fun _ _ _ h => h) (Or.inl ⟨by rfl, ?_⟩) (by assumption) ?_
    rotate_left
    · intro w hSw
      (try dsimp only at hSw)
      first | (go_simp; done) | (go_simp; with_reducible rfl)
    (try simp only [Act.put, List.setIfInBounds_toArray, List.set_cons_zero, List.set_cons_succ])
    refine wpAnyH_ready (rs := [1]) (by kernel_rfl) (by simp) ?_
    refine AllReadyH.cons (o := { dst := some 21, op := Op.call { callee := Callee.value (Operand.func 76), args := #[Operand.tmp 20, Operand.const (Value.int IntKind.i64 0), Operand.const (Value.int IntKind.i64 999)], argTypes := #[95, 2, 2] }, type := 2, pos := "l12_prices.go:140", after := #[{ on := 0, ground := Ground.data }], guard := none }) rfl (fun K hK => ?_) AllReadyH.nil
    go_simp
    go_at_call 76
    refine (off999 w5.drew B g a len cap (HRd5.out.kept fun _ _ => rfl)).mono ?_
    rintro e w6 ⟨q, rfl, hg6x, hr6⟩
    have HX6 := Lib.hid ((hg6x.block _ (by exact lt_of_block HX5.out) (by intro e; injection e with e; omega)).trans HX5.out)
    have HR6 := Lib.hid ((hg6x.block _ (by exact lt_of_block HR5.out) (by intro e; injection e with e; omega)).trans HR5.out)
    have HB6 := Lib.hid ((HB5.out.trans (⟨rfl, rfl, rfl, Nat.le_refl _, fun _ _ => rfl⟩ : Below w.heap.size w5 w5.drew)).grown hg6x HB5.out.size (fun k hk => by cases hk; omega))
    have hS2 : w6.cell? ⟨b6, 0, none⟩ = some (.string item) ∧ w6.cell? ⟨b6, 1, none⟩ = some (.int .i64 buy) ∧ w6.cell? ⟨b6, 2, none⟩ = some (.int .i64 free) := (trip HX6.out).1
    refine hK.out _ _ hS2 (fun hHeld2 => ?_)
    clear hK K
    (try simp only [Act.put, List.setIfInBounds_toArray, List.set_cons_zero, List.set_cons_succ])
    refine wpAnyH_take (i := 3) (oi := { dst := some 2, op := Op.assign (Operand.tmp 21), type := 2, pos := "l12_prices.go:140", after := #[{ on := 1, ground := Ground.data }, { on := 1, ground := Ground.chain }, { on := 0, ground := Ground.phase }, { on := 1, ground := Ground.phase }, { on := 2, ground := Ground.textOnly Departure.lateStores }], guard := none }) (v := ?_) rfl (by kernel_rfl) (by kernel_rfl) (by kernel_rfl) (fun _ _ _ h => h) (Or.inl ⟨by rfl, ?_⟩) (by assumption) ?_
    rotate_left
    · intro w hSw
      (try dsimp only at hSw)
      first | (go_simp; done) | (go_simp; with_reducible rfl)
    (try simp only [Act.put, List.setIfInBounds_toArray, List.set_cons_zero, List.set_cons_succ])
    obtain ⟨⟨r0, r1, r2⟩, hfz⟩ := trip HR6.out
    have f0 := hfz 0
    have f1 := hfz 1
    have f2 := hfz 2
    have hS3 : (tripSet w6 w.heap.size (.string item) (.int .i64 buy) (.int .i64 free)).cell? ⟨b6, 0, none⟩ = some (.string item) ∧ (tripSet w6 w.heap.size (.string item) (.int .i64 buy) (.int .i64 free)).cell? ⟨b6, 1, none⟩ = some (.int .i64 buy) ∧ (tripSet w6 w.heap.size (.string item) (.int .i64 buy) (.int .i64 free)).cell? ⟨b6, 2, none⟩ = some (.int .i64 free) := (trip ((tripSet_other _ _ _ (by omega)).trans HX6.out)).1
    have HD := Lib.hid (tripSet_same (.string item) (.int .i64 buy) (.int .i64 free) HR6.out)
    have HBf := Lib.hid (tripSet_below (.string item) (.int .i64 buy) (.int .i64 free) HB6.out (Nat.le_refl _))
    unfold tripSet at hS3 HD HBf
    refine wpAnyH_ready (rs := [4]) (by kernel_rfl) (by simp) ?_
    refine AllReadyH.cons (o := { dst := none, op := Op.store 26 (Operand.tmp 3) (Operand.tmp 22), type := 0, pos := "l12_prices.go:140", after := #[{ on := 2, ground := Ground.data }, { on := 3, ground := Ground.chain }, { on := 0, ground := Ground.phase }, { on := 1, ground := Ground.phase }, { on := 2, ground := Ground.phase }, { on := 3, ground := Ground.phase }], guard := none }) rfl (fun K hK => ?_) AllReadyH.nil
    go_simp
    refine hK.out _ _ hS3 (fun hHeld3 => ?_)
    clear hK K
    (try simp only [Act.put, List.setIfInBounds_toArray, List.set_cons_zero, List.set_cons_succ])
    refine wpAnyH_done (by kernel_rfl) ?_ _
    generalize ((w6.setCell ⟨w.heap.size, 0, none⟩ (.string item)).setCell ⟨w.heap.size, 1, none⟩ (.int .i64 buy)).setCell ⟨w.heap.size, 2, none⟩ (.int .i64 free) = wf at HD HBf ⊢
    clear r0 r1 r2 f0 f1 f2 hfz hS hS2 hS3 hHeld2 hHeld3
    obtain ⟨⟨r0, r1, r2⟩, _⟩ := trip HD.out
    refine hKR _ _ ?_
    go_wp2
    exact bodyPost_ret (v := .tuple #[.int .i64 _, .agg #[.string item, .int .i64 buy, .int .i64 free]]) (by simp [results, Try.results32, go_sem, r0, r1, r2]; rfl) rfl ⟨_, item, buy, free, rfl, hx8, HBf.out⟩
end Go.Proofs.Ytjmilgijdfibbaa
