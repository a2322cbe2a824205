/- Walks and mathematics that several claims share, part 34. -/
import Derived.Test.YtmceofdknphgkaaGa33
import Derived.Deep.Cut
namespace Go.Proofs.Ytmceofdknphgkaa
open Go.RowKit
set_option linter.unusedVariables false
set_option linter.unusedSimpArgs false

def DrawsCT (w : World) (e : Ending) (w' : World) : Prop :=
  ∃ (x : CartC) (t : ByteArray), t.size ≤ 8 ∧ e = .returned (.tuple #[.agg #[.slice x.va 4 x.vc, .slice x.oa x.no x.oc], .string t]) ∧ Crw w' w.heap.size w'.heap.size x ∧ Below w.heap.size w w'
def DrawsCN (w : World) (e : Ending) (w' : World) : Prop :=
  ∃ (x : CartC) (d : Int), e = .returned (.tuple #[.agg #[.slice x.va 4 x.vc, .slice x.oa x.no x.oc], .int .i64 d]) ∧ Crw w' w.heap.size w'.heap.size x ∧ Below w.heap.size w w'
def DrawsCNN (w : World) (e : Ending) (w' : World) : Prop :=
  ∃ (x : CartC) (d k : Int), e = .returned (.tuple #[.agg #[.slice x.va 4 x.vc, .slice x.oa x.no x.oc], .int .i64 d, .int .i64 k]) ∧ Crw w' w.heap.size w'.heap.size x ∧ Below w.heap.size w w'
set_option maxRecDepth 100000 in
theorem rdDev (w : World) (B g : Nat) (a : Option Addr) (len cap : Nat) (h : Rd w B g a len cap) :
    Calls Try.prog 114 #[.pointer (some ⟨g, 0, none⟩)] w (YieldsInt .i64 w B g a len cap) := by
  go_enter Try.func114, Try.ntmps114
  go_wp2_with fail
  refine (once w B g a len cap h 40 (by omega) (by omega)).mono ?_
  rintro e w1 ⟨b, rfl, hg1, hr1⟩
  cases b
  · go_wp2_with fail
    refine (belowI w1 B g a len cap hr1 4 (by omega) (by omega)).mono ?_
    rintro e w2 ⟨v, hv, rfl, hg2, hr2⟩
    have hg := hg1.trans hg2
    go_wp2
    go_ret
    exact ⟨_, rfl, hg, hr2⟩
  · go_wp2_with fail
    refine (rdOff w1 B g a len cap hr1 0 3 (by omega) (by omega) (by omega)).mono ?_
    rintro e w2 ⟨v, rfl, hg2, hr2⟩
    have hg := hg1.trans hg2
    go_wp2
    go_ret
    exact ⟨_, rfl, hg, hr2⟩

set_option maxRecDepth 100000 in
set_option maxHeartbeats 80000000 in
theorem drawLevelOf (w : World) (B : Nat) (a : Option Addr) (len cap : Nat) (hB : B ≤ w.heap.size) (h : Src w B a len) :
    Calls Try.prog 36 #[.slice a len cap] w (DrawsCT w) := by
  have hb0 : Below w.heap.size w (w.alloc (.cells #[.slice none 0 0, .slice none 0 0] 27)) := (Below.refl _ w).alloc (Nat.le_refl _) _
  have hT0 := boxAt (Below.refl _ (w.alloc (.cells #[.slice none 0 0, .slice none 0 0] 27)))
  have hTs : Hid ((w.alloc (.cells #[.slice none 0 0, .slice none 0 0] 27)).heap.size = w.heap.size + 1) := by show _ = _; simp
  have HS0 := Lib.hid (h.kept (w' := w.alloc (.cells #[.slice none 0 0, .slice none 0 0] 27)) fun k hk => hb0.block k (by omega))
  have HR0 := Lib.hid hT0
  have HB0 := Lib.hid hb0
  clear h hT0 hb0
  go_enter Try.func36, Try.ntmps36
  go_wp2_with fail
  generalize w.alloc (.cells #[.slice none 0 0, .slice none 0 0] 27) = w0 at HS0 HR0 HB0 hTs ⊢
  refine (l1Open w0 B a len cap (by have := hTs.out; omega) HS0.out).mono ?_
  rintro e w1 ⟨rfl, hg1, hr1⟩
  have HD1 : Hid (D1 w w1 B w0.heap.size a len cap #[.slice none 0 0, .slice none 0 0]) := ⟨(hg1.block _ (by have := hTs.out; omega) (by intro e; cases e)).trans HR0.out, HB0.out.grown hg1 (by have := hTs.out; omega) (fun k hk => by cases hk), hr1, by have := hTs.out; omega⟩
  clear hg1 hr1 HS0 HR0 HB0 hTs
  generalize w0.heap.size = g at HD1 ⊢
  go_wp2_with fail
  refine (rdCart w1 B g a len cap HD1.out.rd).mono ?_
  rintro e w2 ⟨x, rfl, hx, hg2, hr2⟩
  have HD2 := Lib.hid (HD1.out.step hg2 hr2)
  have hsw := HD1.out.bel.size
  have hgl := HD2.out.glt
  have hgw := HD1.out.rd.lt
  have HX := Lib.hid hx
  have hs12 := hg2.size
  clear hx hg2 hr2 HD1
  go_upto_region 3 with fail
  have HC3 := Lib.hid (boxAt (Below.refl _ (w2.alloc (.cells #[.slice x.va 4 x.vc, .slice x.oa x.no x.oc] 27))))
  have HD3 := Lib.hid (HD2.out.box (.cells #[.slice x.va 4 x.vc, .slice x.oa x.no x.oc] 27))
  have HX3 := Lib.hid (HX.out.kept (w' := w2.alloc (.cells #[.slice x.va 4 x.vc, .slice x.oa x.no x.oc] 27)) fun j _ h2 => Below.heap_alloc _ _ _ h2)
  have hs3 : w2.heap.size + 1 = (w2.alloc (.cells #[.slice x.va 4 x.vc, .slice x.oa x.no x.oc] 27)).heap.size := by simp
  clear HD2 HX
  have hw12 : w1.heap.size ≤ w2.heap.size := hs12
  generalize w2.alloc (.cells #[.slice x.va 4 x.vc, .slice x.oa x.no x.oc] 27) = w3 at HC3 HD3 HX3 hs3 ⊢
  have hcg : w2.heap.size ≠ g := by omega
  have hcl : w2.heap.size < w3.heap.size := by omega
  generalize w2.heap.size = cb at HC3 HX3 hs3 hcg hcl hw12 hs12 ⊢
  have hS : w3.drew.cell? ⟨cb, 0, none⟩ = some (.slice x.va 4 x.vc) ∧ w3.drew.cell? ⟨cb, 1, none⟩ = some (.slice x.oa x.no x.oc) := pair_cells HC3.out
  go_wp2_with fail
  refine wp_region_held_drew (S := fun w' => w'.cell? ⟨cb, 0, none⟩ = some (.slice x.va 4 x.vc) ∧ w'.cell? ⟨cb, 1, none⟩ = some (.slice x.oa x.no x.oc)) (by kernel_rfl) hS (fun hHeld => ?_)
  refine wpAnyH_take (i := 0) (oi := { dst := some 10, op := .load 27 (.tmp 5), type := 27, pos := "l05_views.go:109", after := #[], guard := none }) (v := ?_) rfl (by kernel_rfl) (by kernel_rfl) (by kernel_rfl) (fun _ _ _ h => h) (Or.inl ⟨by rfl, ?_⟩) (by assumption) ?_
  rotate_left
  · intro w hSw
    (try dsimp only at hSw)
    first | (go_simp; done) | (go_simp; with_reducible rfl)
  (try simp only [Act.put, List.setIfInBounds_toArray, List.set_cons_zero, List.set_cons_succ])
  refine wpAnyH_take (i := 1) (oi := { dst := some 11, op := .move (.tmp 4), type := 94, pos := "l05_views.go:109", after := #[], guard := none }) (v := ?_) rfl (by kernel_rfl) (by kernel_rfl) (by kernel_rfl) (fun _ _ _ h => h) (Or.inl ⟨by rfl, ?_⟩) (by assumption) ?_
  rotate_left
  · intro w hSw
    (try dsimp only at hSw)
    first | (go_simp; done) | (go_simp; with_reducible rfl)
  (try simp only [Act.put, List.setIfInBounds_toArray, List.set_cons_zero, List.set_cons_succ])
  refine wpAnyH_ready (rs := [2]) (by kernel_rfl) (by simp) ?_
  refine AllReadyH.cons (o := { dst := some 12, op := .call { callee := .value (.func 109), args := #[.tmp 11], argTypes := #[94] }, type := 9, pos := "l05_views.go:109", after := #[⟨1, .data⟩], guard := none }) rfl (fun K hK => ?_) AllReadyH.nil
  go_simp
  go_at_call 109
  refine (rdItem w3.drew B g a len cap (HD3.out.rd.kept (w' := w3.drew) fun _ _ => rfl)).mono ?_
  rintro e z1 ⟨t, ht, rfl, hg1, hr1⟩
  have hg1' : w3.grownBy z1 (some g) := ⟨hg1.os, hg1.tape, hg1.output, hg1.size, hg1.block⟩
  have HD5 := Lib.hid (HD3.out.step hg1' hr1)
  have hcl5 : cb < z1.heap.size := Nat.lt_of_lt_of_le hcl hg1'.size
  have HC5 := Lib.hid ((hg1'.block cb (by omega) (by intro e; injection e with e; exact hcg e)).trans HC3.out)
  have hs5 := hg1'.size
  have HX5 := Lib.hid ((HX3.out.kept fun j h1 h2 => hg1'.block j (by omega) (by intro e; injection e with e; omega)).more (lo' := w1.heap.size) (hi' := z1.heap.size) (Nat.le_refl _) (by omega))
  have hS5 : z1.cell? ⟨cb, 0, none⟩ = some (.slice x.va 4 x.vc) ∧ z1.cell? ⟨cb, 1, none⟩ = some (.slice x.oa x.no x.oc) := pair_cells HC5.out
  clear hg1 hr1 hg1'
  refine hK.out _ _ hS5 (fun hHeld2 => ?_)
  clear hK K
  (try simp only [Act.put, List.setIfInBounds_toArray, List.set_cons_zero, List.set_cons_succ])
  have HXf := Lib.hid (HX5.out.more (lo' := w.heap.size) (hi' := z1.heap.size) (by omega) (Nat.le_refl _))
  obtain ⟨HR4, HX4, HB4⟩ := set_out HD5.out.ra HD5.out.bel HXf.out
  obtain ⟨r0, r1⟩ := pair_cells HD5.out.ra
  obtain ⟨f0, f1⟩ := pair_frozen HD5.out.ra
  have hSa : ((z1.setCell ⟨w.heap.size, 0, none⟩ (.slice x.va 4 x.vc)).setCell ⟨w.heap.size, 1, none⟩ (.slice x.oa x.no x.oc)).cell? ⟨cb, 0, none⟩ = some (.slice x.va 4 x.vc) ∧ ((z1.setCell ⟨w.heap.size, 0, none⟩ (.slice x.va 4 x.vc)).setCell ⟨w.heap.size, 1, none⟩ (.slice x.oa x.no x.oc)).cell? ⟨cb, 1, none⟩ = some (.slice x.oa x.no x.oc) := pair_cells ((pair_other _ _ (by omega)).trans HC5.out)
  refine wpAnyH_ready (rs := [3]) (by kernel_rfl) (by simp) ?_
  refine AllReadyH.cons (o := { dst := none, op := .store 27 (.tmp 2) (.tmp 10), type := 0, pos := "l05_views.go:109", after := #[⟨0, .data⟩, ⟨2, .chain⟩, ⟨0, .phase⟩, ⟨1, .textOnly .lateStores⟩, ⟨2, .textOnly .lateStoresUnsure⟩], guard := none }) rfl (fun K hK => ?_) AllReadyH.nil
  go_simp
  refine hK.out _ _ hSa (fun hHeld3 => ?_)
  clear hK K
  (try simp only [Act.put, List.setIfInBounds_toArray, List.set_cons_zero, List.set_cons_succ])
  refine wpAnyH_take (i := 4) (oi := { dst := some 3, op := .assign (.tmp 12), type := 9, pos := "l05_views.go:109", after := #[⟨2, .data⟩, ⟨3, .chain⟩, ⟨0, .phase⟩, ⟨1, .phase⟩, ⟨2, .phase⟩, ⟨3, .phase⟩], guard := none }) (v := ?_) rfl (by kernel_rfl) (by kernel_rfl) (by kernel_rfl) (fun _ _ _ h => h) (Or.inl ⟨by rfl, ?_⟩) (by assumption) ?_
  rotate_left
  · intro w hSw
    (try dsimp only at hSw)
    first | (go_simp; done) | (go_simp; with_reducible rfl)
  (try simp only [Act.put, List.setIfInBounds_toArray, List.set_cons_zero, List.set_cons_succ])
  refine wpAnyH_done (by kernel_rfl) ?_ _
  clear r0 r1 f0 f1 hSa
  have HSz := Lib.hid (pair_size z1 w.heap.size (.slice x.va 4 x.vc) (.slice x.oa x.no x.oc))
  generalize (z1.setCell ⟨w.heap.size, 0, none⟩ (.slice x.va 4 x.vc)).setCell ⟨w.heap.size, 1, none⟩ (.slice x.oa x.no x.oc) = wf at HR4 HX4 HB4 HSz ⊢
  obtain ⟨q0, q1⟩ := pair_cells HR4.out
  go_wp2
  exact bodyPost_ret (v := .tuple #[.agg #[.slice x.va 4 x.vc, .slice x.oa x.no x.oc], .string t]) (by simp [results, Try.results36, go_sem, q0, q1]) rfl ⟨x, t, ht, rfl, HX4.out, HB4.out⟩

set_option maxRecDepth 100000 in
set_option maxHeartbeats 80000000 in
theorem drawUndoTarget (w : World) (B : Nat) (a : Option Addr) (len cap : Nat) (hB : B ≤ w.heap.size) (h : Src w B a len) :
    Calls Try.prog 40 #[.slice a len cap] w (DrawsCN w) := by
  have hb0 : Below w.heap.size w (w.alloc (.cells #[.slice none 0 0, .slice none 0 0] 27)) := (Below.refl _ w).alloc (Nat.le_refl _) _
  have hT0 := boxAt (Below.refl _ (w.alloc (.cells #[.slice none 0 0, .slice none 0 0] 27)))
  have hTs : Hid ((w.alloc (.cells #[.slice none 0 0, .slice none 0 0] 27)).heap.size = w.heap.size + 1) := by show _ = _; simp
  have HS0 := Lib.hid (h.kept (w' := w.alloc (.cells #[.slice none 0 0, .slice none 0 0] 27)) fun k hk => hb0.block k (by omega))
  have HR0 := Lib.hid hT0
  have HB0 := Lib.hid hb0
  clear h hT0 hb0
  go_enter Try.func40, Try.ntmps40
  go_wp2_with fail
  generalize w.alloc (.cells #[.slice none 0 0, .slice none 0 0] 27) = w0 at HS0 HR0 HB0 hTs ⊢
  refine (l1Open w0 B a len cap (by have := hTs.out; omega) HS0.out).mono ?_
  rintro e w1 ⟨rfl, hg1, hr1⟩
  have HD1 : Hid (D1 w w1 B w0.heap.size a len cap #[.slice none 0 0, .slice none 0 0]) := ⟨(hg1.block _ (by have := hTs.out; omega) (by intro e; cases e)).trans HR0.out, HB0.out.grown hg1 (by have := hTs.out; omega) (fun k hk => by cases hk), hr1, by have := hTs.out; omega⟩
  clear hg1 hr1 HS0 HR0 HB0 hTs
  generalize w0.heap.size = g at HD1 ⊢
  go_wp2_with fail
  refine (rdCart w1 B g a len cap HD1.out.rd).mono ?_
  rintro e w2 ⟨x, rfl, hx, hg2, hr2⟩
  have HD2 := Lib.hid (HD1.out.step hg2 hr2)
  have hsw := HD1.out.bel.size
  have hgl := HD2.out.glt
  have hgw := HD1.out.rd.lt
  have HX := Lib.hid hx
  have hs12 := hg2.size
  clear hx hg2 hr2 HD1
  go_upto_region 3 with fail
  have HC3 := Lib.hid (boxAt (Below.refl _ (w2.alloc (.cells #[.slice x.va 4 x.vc, .slice x.oa x.no x.oc] 27))))
  have HD3 := Lib.hid (HD2.out.box (.cells #[.slice x.va 4 x.vc, .slice x.oa x.no x.oc] 27))
  have HX3 := Lib.hid (HX.out.kept (w' := w2.alloc (.cells #[.slice x.va 4 x.vc, .slice x.oa x.no x.oc] 27)) fun j _ h2 => Below.heap_alloc _ _ _ h2)
  have hs3 : w2.heap.size + 1 = (w2.alloc (.cells #[.slice x.va 4 x.vc, .slice x.oa x.no x.oc] 27)).heap.size := by simp
  clear HD2 HX
  have hw12 : w1.heap.size ≤ w2.heap.size := hs12
  generalize w2.alloc (.cells #[.slice x.va 4 x.vc, .slice x.oa x.no x.oc] 27) = w3 at HC3 HD3 HX3 hs3 ⊢
  have hcg : w2.heap.size ≠ g := by omega
  have hcl : w2.heap.size < w3.heap.size := by omega
  generalize w2.heap.size = cb at HC3 HX3 hs3 hcg hcl hw12 hs12 ⊢
  have hS : w3.drew.cell? ⟨cb, 0, none⟩ = some (.slice x.va 4 x.vc) ∧ w3.drew.cell? ⟨cb, 1, none⟩ = some (.slice x.oa x.no x.oc) := pair_cells HC3.out
  go_wp2_with fail
  refine wp_region_held_drew (S := fun w' => w'.cell? ⟨cb, 0, none⟩ = some (.slice x.va 4 x.vc) ∧ w'.cell? ⟨cb, 1, none⟩ = some (.slice x.oa x.no x.oc)) (by kernel_rfl) hS (fun hHeld => ?_)
  refine wpAnyH_take (i := 0) (oi := { dst := some 10, op := .load 27 (.tmp 5), type := 27, pos := "l06_commands.go:229", after := #[], guard := none }) (v := ?_) rfl (by kernel_rfl) (by kernel_rfl) (by kernel_rfl) (fun _ _ _ h => h) (Or.inl ⟨by rfl, ?_⟩) (by assumption) ?_
  rotate_left
  · intro w hSw
    (try dsimp only at hSw)
    first | (go_simp; done) | (go_simp; with_reducible rfl)
  (try simp only [Act.put, List.setIfInBounds_toArray, List.set_cons_zero, List.set_cons_succ])
  refine wpAnyH_take (i := 1) (oi := { dst := some 11, op := .move (.tmp 4), type := 94, pos := "l06_commands.go:229", after := #[], guard := none }) (v := ?_) rfl (by kernel_rfl) (by kernel_rfl) (by kernel_rfl) (fun _ _ _ h => h) (Or.inl ⟨by rfl, ?_⟩) (by assumption) ?_
  rotate_left
  · intro w hSw
    (try dsimp only at hSw)
    first | (go_simp; done) | (go_simp; with_reducible rfl)
  (try simp only [Act.put, List.setIfInBounds_toArray, List.set_cons_zero, List.set_cons_succ])
  refine wpAnyH_ready (rs := [2]) (by kernel_rfl) (by simp) ?_
  refine AllReadyH.cons (o := { dst := some 12, op := .call { callee := .value (.func 114), args := #[.tmp 11], argTypes := #[94] }, type := 2, pos := "l06_commands.go:229", after := #[⟨1, .data⟩], guard := none }) rfl (fun K hK => ?_) AllReadyH.nil
  go_simp
  go_at_call 114
  refine (rdDev w3.drew B g a len cap (HD3.out.rd.kept (w' := w3.drew) fun _ _ => rfl)).mono ?_
  rintro e z1 ⟨d, rfl, hg1, hr1⟩
  have hg1' : w3.grownBy z1 (some g) := ⟨hg1.os, hg1.tape, hg1.output, hg1.size, hg1.block⟩
  have HD5 := Lib.hid (HD3.out.step hg1' hr1)
  have hcl5 : cb < z1.heap.size := Nat.lt_of_lt_of_le hcl hg1'.size
  have HC5 := Lib.hid ((hg1'.block cb (by omega) (by intro e; injection e with e; exact hcg e)).trans HC3.out)
  have hs5 := hg1'.size
  have HX5 := Lib.hid ((HX3.out.kept fun j h1 h2 => hg1'.block j (by omega) (by intro e; injection e with e; omega)).more (lo' := w1.heap.size) (hi' := z1.heap.size) (Nat.le_refl _) (by omega))
  have hS5 : z1.cell? ⟨cb, 0, none⟩ = some (.slice x.va 4 x.vc) ∧ z1.cell? ⟨cb, 1, none⟩ = some (.slice x.oa x.no x.oc) := pair_cells HC5.out
  clear hg1 hr1 hg1'
  refine hK.out _ _ hS5 (fun hHeld2 => ?_)
  clear hK K
  (try simp only [Act.put, List.setIfInBounds_toArray, List.set_cons_zero, List.set_cons_succ])
  have HXf := Lib.hid (HX5.out.more (lo' := w.heap.size) (hi' := z1.heap.size) (by omega) (Nat.le_refl _))
  obtain ⟨HR4, HX4, HB4⟩ := set_out HD5.out.ra HD5.out.bel HXf.out
  obtain ⟨r0, r1⟩ := pair_cells HD5.out.ra
  obtain ⟨f0, f1⟩ := pair_frozen HD5.out.ra
  have hSa : ((z1.setCell ⟨w.heap.size, 0, none⟩ (.slice x.va 4 x.vc)).setCell ⟨w.heap.size, 1, none⟩ (.slice x.oa x.no x.oc)).cell? ⟨cb, 0, none⟩ = some (.slice x.va 4 x.vc) ∧ ((z1.setCell ⟨w.heap.size, 0, none⟩ (.slice x.va 4 x.vc)).setCell ⟨w.heap.size, 1, none⟩ (.slice x.oa x.no x.oc)).cell? ⟨cb, 1, none⟩ = some (.slice x.oa x.no x.oc) := pair_cells ((pair_other _ _ (by omega)).trans HC5.out)
  refine wpAnyH_ready (rs := [3]) (by kernel_rfl) (by simp) ?_
  refine AllReadyH.cons (o := { dst := none, op := .store 27 (.tmp 2) (.tmp 10), type := 0, pos := "l06_commands.go:229", after := #[⟨0, .data⟩, ⟨2, .chain⟩, ⟨0, .phase⟩, ⟨1, .textOnly .lateStores⟩, ⟨2, .textOnly .lateStoresUnsure⟩], guard := none }) rfl (fun K hK => ?_) AllReadyH.nil
  go_simp
  refine hK.out _ _ hSa (fun hHeld3 => ?_)
  clear hK K
  (try simp only [Act.put, List.setIfInBounds_toArray, List.set_cons_zero, List.set_cons_succ])
  refine wpAnyH_take (i := 4) (oi := { dst := some 3, op := .assign (.tmp 12), type := 2, pos := "l06_commands.go:229", after := #[⟨2, .data⟩, ⟨3, .chain⟩, ⟨0, .phase⟩, ⟨1, .phase⟩, ⟨2, .phase⟩, ⟨3, .phase⟩], guard := none }) (v := ?_) rfl (by kernel_rfl) (by kernel_rfl) (by kernel_rfl) (fun _ _ _ h => h) (Or.inl ⟨by rfl, ?_⟩) (by assumption) ?_
  rotate_left
  · intro w hSw
    (try dsimp only at hSw)
    first | (go_simp; done) | (go_simp; with_reducible rfl)
  (try simp only [Act.put, List.setIfInBounds_toArray, List.set_cons_zero, List.set_cons_succ])
  refine wpAnyH_done (by kernel_rfl) ?_ _
  clear r0 r1 f0 f1 hSa
  have HSz := Lib.hid (pair_size z1 w.heap.size (.slice x.va 4 x.vc) (.slice x.oa x.no x.oc))
  generalize (z1.setCell ⟨w.heap.size, 0, none⟩ (.slice x.va 4 x.vc)).setCell ⟨w.heap.size, 1, none⟩ (.slice x.oa x.no x.oc) = wf at HR4 HX4 HB4 HSz ⊢
  obtain ⟨q0, q1⟩ := pair_cells HR4.out
  go_wp2
  exact bodyPost_ret (v := .tuple #[.agg #[.slice x.va 4 x.vc, .slice x.oa x.no x.oc], .int .i64 d]) (by simp [results, Try.results40, go_sem, q0, q1]) rfl ⟨x, d, rfl, HX4.out, HB4.out⟩

set_option maxRecDepth 100000 in
set_option maxHeartbeats 80000000 in
theorem drawRedoTarget (w : World) (B : Nat) (a : Option Addr) (len cap : Nat) (hB : B ≤ w.heap.size) (h : Src w B a len) :
    Calls Try.prog 43 #[.slice a len cap] w (DrawsCN w) := by
  have hb0 : Below w.heap.size w (w.alloc (.cells #[.slice none 0 0, .slice none 0 0] 27)) := (Below.refl _ w).alloc (Nat.le_refl _) _
  have hT0 := boxAt (Below.refl _ (w.alloc (.cells #[.slice none 0 0, .slice none 0 0] 27)))
  have hTs : Hid ((w.alloc (.cells #[.slice none 0 0, .slice none 0 0] 27)).heap.size = w.heap.size + 1) := by show _ = _; simp
  have HS0 := Lib.hid (h.kept (w' := w.alloc (.cells #[.slice none 0 0, .slice none 0 0] 27)) fun k hk => hb0.block k (by omega))
  have HR0 := Lib.hid hT0
  have HB0 := Lib.hid hb0
  clear h hT0 hb0
  go_enter Try.func43, Try.ntmps43
  go_wp2_with fail
  generalize w.alloc (.cells #[.slice none 0 0, .slice none 0 0] 27) = w0 at HS0 HR0 HB0 hTs ⊢
  refine (drawUndoTarget w0 B a len cap (by have := hTs.out; omega) HS0.out).mono ?_
  rintro e w2 ⟨x, d, rfl, hx, hb2⟩
  have hsw := HB0.out.size
  have hra : w2.heap[w.heap.size]? = some (.cells #[.slice none 0 0, .slice none 0 0] 27 (0, 0)) := (hb2.block _ (by have := hTs.out; omega)).trans HR0.out
  have hbw : Below w.heap.size w w2 := HB0.out.trans (hb2.mono (by omega))
  obtain ⟨HR4, HX4, HB4⟩ := set_out hra hbw (hx.more (by omega) (Nat.le_refl _))
  obtain ⟨r0, r1⟩ := pair_cells (hra)
  obtain ⟨f0, f1⟩ := pair_frozen (hra)
  clear hx hra hbw hb2 HR0 HB0 HS0 hTs
  go_wp2
  change bodyPost _ _ _ _ _ ((w2.setCell ⟨w.heap.size, 0, none⟩ (.slice x.va 4 x.vc)).setCell ⟨w.heap.size, 1, none⟩ (.slice x.oa x.no x.oc))
  generalize (w2.setCell ⟨w.heap.size, 0, none⟩ (.slice x.va 4 x.vc)).setCell ⟨w.heap.size, 1, none⟩ (.slice x.oa x.no x.oc) = wf at HR4 HX4 HB4 ⊢
  obtain ⟨q0, q1⟩ := pair_cells HR4.out
  exact bodyPost_ret (v := .tuple #[.agg #[.slice x.va 4 x.vc, .slice x.oa x.no x.oc], .int .i64 d]) (by simp [results, Try.results43, go_sem, q0, q1]) rfl ⟨x, d, rfl, HX4.out, HB4.out⟩

set_option maxRecDepth 100000 in
set_option maxHeartbeats 80000000 in
theorem drawPage (w : World) (B : Nat) (a : Option Addr) (len cap : Nat) (hB : B ≤ w.heap.size) (h : Src w B a len) :
    Calls Try.prog 33 #[.slice a len cap] w (DrawsCNN w) := by
  have hb0 : Below w.heap.size w (w.alloc (.cells #[.slice none 0 0, .slice none 0 0] 27)) := (Below.refl _ w).alloc (Nat.le_refl _) _
  have hT0 := boxAt (Below.refl _ (w.alloc (.cells #[.slice none 0 0, .slice none 0 0] 27)))
  have hTs : Hid ((w.alloc (.cells #[.slice none 0 0, .slice none 0 0] 27)).heap.size = w.heap.size + 1) := by show _ = _; simp
  have HS0 := Lib.hid (h.kept (w' := w.alloc (.cells #[.slice none 0 0, .slice none 0 0] 27)) fun k hk => hb0.block k (by omega))
  have HR0 := Lib.hid hT0
  have HB0 := Lib.hid hb0
  clear h hT0 hb0
  go_enter Try.func33, Try.ntmps33
  go_wp2_with fail
  generalize w.alloc (.cells #[.slice none 0 0, .slice none 0 0] 27) = w0 at HS0 HR0 HB0 hTs ⊢
  refine (l1Open w0 B a len cap (by have := hTs.out; omega) HS0.out).mono ?_
  rintro e w1 ⟨rfl, hg1, hr1⟩
  have HD1 : Hid (D1 w w1 B w0.heap.size a len cap #[.slice none 0 0, .slice none 0 0]) := ⟨(hg1.block _ (by have := hTs.out; omega) (by intro e; cases e)).trans HR0.out, HB0.out.grown hg1 (by have := hTs.out; omega) (fun k hk => by cases hk), hr1, by have := hTs.out; omega⟩
  clear hg1 hr1 HS0 HR0 HB0 hTs
  generalize w0.heap.size = g at HD1 ⊢
  go_wp2_with fail
  refine (rdCart w1 B g a len cap HD1.out.rd).mono ?_
  rintro e w2 ⟨x, rfl, hx, hg2, hr2⟩
  have HD2 := Lib.hid (HD1.out.step hg2 hr2)
  have hsw := HD1.out.bel.size
  have hgl := HD2.out.glt
  have hgw := HD1.out.rd.lt
  have HX := Lib.hid hx
  have hs12 := hg2.size
  clear hx hg2 hr2 HD1
  go_upto_region 3 with fail
  have HC3 := Lib.hid (boxAt (Below.refl _ (w2.alloc (.cells #[.slice x.va 4 x.vc, .slice x.oa x.no x.oc] 27))))
  have HD3 := Lib.hid (HD2.out.box (.cells #[.slice x.va 4 x.vc, .slice x.oa x.no x.oc] 27))
  have HX3 := Lib.hid (HX.out.kept (w' := w2.alloc (.cells #[.slice x.va 4 x.vc, .slice x.oa x.no x.oc] 27)) fun j _ h2 => Below.heap_alloc _ _ _ h2)
  have hs3 : w2.heap.size + 1 = (w2.alloc (.cells #[.slice x.va 4 x.vc, .slice x.oa x.no x.oc] 27)).heap.size := by simp
  clear HD2 HX
  have hw12 : w1.heap.size ≤ w2.heap.size := hs12
  generalize w2.alloc (.cells #[.slice x.va 4 x.vc, .slice x.oa x.no x.oc] 27) = w3 at HC3 HD3 HX3 hs3 ⊢
  have hcg : w2.heap.size ≠ g := by omega
  have hcl : w2.heap.size < w3.heap.size := by omega
  generalize w2.heap.size = cb at HC3 HX3 hs3 hcg hcl hw12 hs12 ⊢
  go_wp2_with fail
  refine (once w3 B g a len cap HD3.out.rd 5 (by omega) (by omega)).mono ?_
  rintro e w4 ⟨o1, rfl, hg1, hr1⟩
  have HD4 := Lib.hid (HD3.out.step hg1 hr1)
  have hcl4 : cb < w4.heap.size := Nat.lt_of_lt_of_le hcl hg1.size
  have HC4 := Lib.hid ((hg1.block cb hcl (by intro e; injection e with e; exact hcg e)).trans HC3.out)
  have HX4 := Lib.hid ((HX3.out.kept fun j h1 h2 => hg1.block j (by omega) (by intro e; injection e with e; omega)).more (lo' := w1.heap.size) (hi' := w4.heap.size) (Nat.le_refl _) (by omega))
  clear hg1 hr1 HD3 HC3 HX3
  cases o1
  · skip
    have hS : w4.drew.cell? ⟨cb, 0, none⟩ = some (.slice x.va 4 x.vc) ∧ w4.drew.cell? ⟨cb, 1, none⟩ = some (.slice x.oa x.no x.oc) := pair_cells HC4.out
    go_wp2_with fail
    refine wp_region_held_drew (S := fun w' => w'.cell? ⟨cb, 0, none⟩ = some (.slice x.va 4 x.vc) ∧ w'.cell? ⟨cb, 1, none⟩ = some (.slice x.oa x.no x.oc)) (by kernel_rfl) hS (fun hHeld => ?_)
    refine wpAnyH_take (i := 0) (oi := { dst := some 20, op := .load 27 (.tmp 6), type := 27, pos := "l08_pages.go:71", after := #[], guard := none }) (v := ?_) rfl (by kernel_rfl) (by kernel_rfl) (by kernel_rfl) (fun _ _ _ h => h) (Or.inl ⟨by rfl, ?_⟩) (by assumption) ?_
    rotate_left
    · intro w hSw
      (try dsimp only at hSw)
      first | (go_simp; done) | (go_simp; with_reducible rfl)
    (try simp only [Act.put, List.setIfInBounds_toArray, List.set_cons_zero, List.set_cons_succ])
    refine wpAnyH_take (i := 1) (oi := { dst := some 21, op := .move (.tmp 5), type := 94, pos := "l08_pages.go:71", after := #[], guard := none }) (v := ?_) rfl (by kernel_rfl) (by kernel_rfl) (by kernel_rfl) (fun _ _ _ h => h) (Or.inl ⟨by rfl, ?_⟩) (by assumption) ?_
    rotate_left
    · intro w hSw
      (try dsimp only at hSw)
      first | (go_simp; done) | (go_simp; with_reducible rfl)
    (try simp only [Act.put, List.setIfInBounds_toArray, List.set_cons_zero, List.set_cons_succ])
    refine wpAnyH_take (i := 3) (oi := { dst := some 23, op := .move (.tmp 5), type := 94, pos := "l08_pages.go:71", after := #[], guard := none }) (v := ?_) rfl (by kernel_rfl) (by kernel_rfl) (by kernel_rfl) (fun _ _ _ h => h) (Or.inl ⟨by rfl, ?_⟩) (by assumption) ?_
    rotate_left
    · intro w hSw
      (try dsimp only at hSw)
      first | (go_simp; done) | (go_simp; with_reducible rfl)
    (try simp only [Act.put, List.setIfInBounds_toArray, List.set_cons_zero, List.set_cons_succ])
    refine wpAnyH_ready (rs := [2]) (by kernel_rfl) (by simp) ?_
    refine AllReadyH.cons (o := { dst := some 22, op := .call { callee := .value (.func 90), args := #[.tmp 21, .const (Value.int IntKind.i64 4)], argTypes := #[94, 3] }, type := 3, pos := "l08_pages.go:71", after := #[⟨1, .data⟩], guard := none }) rfl (fun K hK => ?_) AllReadyH.nil
    go_simp
    go_at_call 90
    refine (belowI w4.drew B g a len cap (HD4.out.rd.kept (w' := w4.drew) fun _ _ => rfl) 4 (by omega) (by omega)).mono ?_
    rintro e z1 ⟨v1, hv1, rfl, hg1, hr1⟩
    have hg1' : w4.grownBy z1 (some g) := ⟨hg1.os, hg1.tape, hg1.output, hg1.size, hg1.block⟩
    have HD5 := Lib.hid (HD4.out.step hg1' hr1)
    have hcl5 : cb < z1.heap.size := Nat.lt_of_lt_of_le hcl4 hg1'.size
    have HC5 := Lib.hid ((hg1'.block cb (by omega) (by intro e; injection e with e; exact hcg e)).trans HC4.out)
    have hs5 := hg1'.size
    have HX5 := Lib.hid ((HX4.out.kept fun j h1 h2 => hg1'.block j (by omega) (by intro e; injection e with e; omega)).more (lo' := w1.heap.size) (hi' := z1.heap.size) (Nat.le_refl _) (by omega))
    have hS5 : z1.cell? ⟨cb, 0, none⟩ = some (.slice x.va 4 x.vc) ∧ z1.cell? ⟨cb, 1, none⟩ = some (.slice x.oa x.no x.oc) := pair_cells HC5.out
    clear hg1 hr1 hg1'
    refine hK.out _ _ hS5 (fun hHeld2 => ?_)
    clear hK K
    (try simp only [Act.put, List.setIfInBounds_toArray, List.set_cons_zero, List.set_cons_succ])
    refine wpAnyH_ready (rs := [4]) (by kernel_rfl) (by simp) ?_
    refine AllReadyH.cons (o := { dst := some 24, op := .call { callee := .value (.func 90), args := #[.tmp 23, .const (Value.int IntKind.i64 9)], argTypes := #[94, 3] }, type := 3, pos := "l08_pages.go:71", after := #[⟨3, .data⟩, ⟨2, .chain⟩], guard := none }) rfl (fun K hK => ?_) AllReadyH.nil
    go_simp
    go_at_call 90
    refine (belowI z1 B g a len cap HD5.out.rd 9 (by omega) (by omega)).mono ?_
    rintro e z2 ⟨v2, hv2, rfl, hg1, hr1⟩
    have hg1' : z1.grownBy z2 (some g) := ⟨hg1.os, hg1.tape, hg1.output, hg1.size, hg1.block⟩
    have HD6 := Lib.hid (HD5.out.step hg1' hr1)
    have hcl6 : cb < z2.heap.size := Nat.lt_of_lt_of_le hcl5 hg1'.size
    have HC6 := Lib.hid ((hg1'.block cb (by omega) (by intro e; injection e with e; exact hcg e)).trans HC5.out)
    have hs6 := hg1'.size
    have HX6 := Lib.hid ((HX5.out.kept fun j h1 h2 => hg1'.block j (by omega) (by intro e; injection e with e; omega)).more (lo' := w1.heap.size) (hi' := z2.heap.size) (Nat.le_refl _) (by omega))
    have hS6 : z2.cell? ⟨cb, 0, none⟩ = some (.slice x.va 4 x.vc) ∧ z2.cell? ⟨cb, 1, none⟩ = some (.slice x.oa x.no x.oc) := pair_cells HC6.out
    clear hg1 hr1 hg1'
    refine hK.out _ _ hS6 (fun hHeld3 => ?_)
    clear hK K
    (try simp only [Act.put, List.setIfInBounds_toArray, List.set_cons_zero, List.set_cons_succ])
    have HXf := Lib.hid (HX6.out.more (lo' := w.heap.size) (hi' := z2.heap.size) (by omega) (Nat.le_refl _))
    obtain ⟨HR4, HX4, HB4⟩ := set_out HD6.out.ra HD6.out.bel HXf.out
    obtain ⟨r0, r1⟩ := pair_cells HD6.out.ra
    obtain ⟨f0, f1⟩ := pair_frozen HD6.out.ra
    have hSa : ((z2.setCell ⟨w.heap.size, 0, none⟩ (.slice x.va 4 x.vc)).setCell ⟨w.heap.size, 1, none⟩ (.slice x.oa x.no x.oc)).cell? ⟨cb, 0, none⟩ = some (.slice x.va 4 x.vc) ∧ ((z2.setCell ⟨w.heap.size, 0, none⟩ (.slice x.va 4 x.vc)).setCell ⟨w.heap.size, 1, none⟩ (.slice x.oa x.no x.oc)).cell? ⟨cb, 1, none⟩ = some (.slice x.oa x.no x.oc) := pair_cells ((pair_other _ _ (by omega)).trans HC6.out)
    refine wpAnyH_ready (rs := [5]) (by kernel_rfl) (by simp) ?_
    refine AllReadyH.cons (o := { dst := none, op := .store 27 (.tmp 2) (.tmp 20), type := 0, pos := "l08_pages.go:71", after := #[⟨0, .data⟩, ⟨4, .chain⟩, ⟨0, .phase⟩, ⟨1, .textOnly .lateStores⟩, ⟨2, .textOnly .lateStoresUnsure⟩, ⟨3, .textOnly .lateStores⟩, ⟨4, .textOnly .lateStoresUnsure⟩], guard := none }) rfl (fun K hK => ?_) AllReadyH.nil
    go_simp
    refine hK.out _ _ hSa (fun hHeld4 => ?_)
    clear hK K
    (try simp only [Act.put, List.setIfInBounds_toArray, List.set_cons_zero, List.set_cons_succ])
    refine wpAnyH_take (i := 6) (oi := { dst := some 3, op := .assign (.tmp 22), type := 2, pos := "l08_pages.go:71", after := #[⟨2, .data⟩, ⟨5, .chain⟩, ⟨0, .phase⟩, ⟨1, .phase⟩, ⟨2, .phase⟩, ⟨3, .textOnly .lateStores⟩, ⟨4, .textOnly .lateStoresUnsure⟩, ⟨5, .phase⟩], guard := none }) (v := ?_) rfl (by kernel_rfl) (by kernel_rfl) (by kernel_rfl) (fun _ _ _ h => h) (Or.inl ⟨by rfl, ?_⟩) (by assumption) ?_
    rotate_left
    · intro w hSw
      (try dsimp only at hSw)
      first | (go_simp; done) | (go_simp; with_reducible rfl)
    (try simp only [Act.put, List.setIfInBounds_toArray, List.set_cons_zero, List.set_cons_succ])
    refine wpAnyH_take (i := 7) (oi := { dst := some 4, op := .assign (.tmp 24), type := 2, pos := "l08_pages.go:71", after := #[⟨4, .data⟩, ⟨6, .chain⟩, ⟨0, .phase⟩, ⟨1, .phase⟩, ⟨2, .phase⟩, ⟨3, .phase⟩, ⟨4, .phase⟩, ⟨5, .phase⟩, ⟨6, .phase⟩], guard := none }) (v := ?_) rfl (by kernel_rfl) (by kernel_rfl) (by kernel_rfl) (fun _ _ _ h => h) (Or.inl ⟨by rfl, ?_⟩) (by assumption) ?_
    rotate_left
    · intro w hSw
      (try dsimp only at hSw)
      first | (go_simp; done) | (go_simp; with_reducible rfl)
    (try simp only [Act.put, List.setIfInBounds_toArray, List.set_cons_zero, List.set_cons_succ])
    refine wpAnyH_done (by kernel_rfl) ?_ _
    clear r0 r1 f0 f1 hSa
    have HSz := Lib.hid (pair_size z2 w.heap.size (.slice x.va 4 x.vc) (.slice x.oa x.no x.oc))
    generalize (z2.setCell ⟨w.heap.size, 0, none⟩ (.slice x.va 4 x.vc)).setCell ⟨w.heap.size, 1, none⟩ (.slice x.oa x.no x.oc) = wf at HR4 HX4 HB4 HSz ⊢
    obtain ⟨q0, q1⟩ := pair_cells HR4.out
    go_wp2
    exact bodyPost_ret (v := .tuple #[.agg #[.slice x.va 4 x.vc, .slice x.oa x.no x.oc], .int .i64 (v1 : Int), .int .i64 (v2 : Int)]) (by simp [results, Try.results33, go_sem, q0, q1]) rfl ⟨x, _, _, rfl, HX4.out, HB4.out⟩
  · skip
    go_wp2_with fail
    refine (rdOff w4 B g a len cap HD4.out.rd 0 6 (by omega) (by omega) (by omega)).mono ?_
    rintro e w5 ⟨d1, rfl, hg1, hr1⟩
    have HD5 := Lib.hid (HD4.out.step hg1 hr1)
    have hcl5 : cb < w5.heap.size := Nat.lt_of_lt_of_le hcl4 hg1.size
    have hs45 := hg1.size
    have hrd4 := HD4.out.rd.lt
    have HC5 := Lib.hid ((hg1.block cb hcl4 (by intro e; injection e with e; exact hcg e)).trans HC4.out)
    have HX5 := Lib.hid ((HX4.out.kept fun j h1 h2 => hg1.block j (by omega) (by intro e; injection e with e; omega)).more (lo' := w1.heap.size) (hi' := w5.heap.size) (Nat.le_refl _) (by omega))
    clear hg1 hr1 HD4 HC4 HX4
    have hS : w5.drew.cell? ⟨cb, 0, none⟩ = some (.slice x.va 4 x.vc) ∧ w5.drew.cell? ⟨cb, 1, none⟩ = some (.slice x.oa x.no x.oc) := pair_cells HC5.out
    go_wp2_with fail
    refine wp_region_held_drew (S := fun w' => w'.cell? ⟨cb, 0, none⟩ = some (.slice x.va 4 x.vc) ∧ w'.cell? ⟨cb, 1, none⟩ = some (.slice x.oa x.no x.oc)) (by kernel_rfl) hS (fun hHeld => ?_)
    refine wpAnyH_take (i := 0) (oi := { dst := some 16, op := .load 27 (.tmp 6), type := 27, pos := "l08_pages.go:69", after := #[], guard := none }) (v := ?_) rfl (by kernel_rfl) (by kernel_rfl) (by kernel_rfl) (fun _ _ _ h => h) (Or.inl ⟨by rfl, ?_⟩) (by assumption) ?_
    rotate_left
    · intro w hSw
      (try dsimp only at hSw)
      first | (go_simp; done) | (go_simp; with_reducible rfl)
    (try simp only [Act.put, List.setIfInBounds_toArray, List.set_cons_zero, List.set_cons_succ])
    refine wpAnyH_take (i := 1) (oi := { dst := some 17, op := .move (.tmp 7), type := 2, pos := "l08_pages.go:69", after := #[{ on := 4, ground := Ground.gcOnly Departure.lateStores }], guard := none }) (v := ?_) rfl (by kernel_rfl) (by kernel_rfl) (by kernel_rfl) (fun _ _ _ h => h) (Or.inl ⟨by rfl, ?_⟩) (by assumption) ?_
    rotate_left
    · intro w hSw
      (try dsimp only at hSw)
      first | (go_simp; done) | (go_simp; with_reducible rfl)
    (try simp only [Act.put, List.setIfInBounds_toArray, List.set_cons_zero, List.set_cons_succ])
    refine wpAnyH_take (i := 2) (oi := { dst := some 18, op := .move (.tmp 5), type := 94, pos := "l08_pages.go:69", after := #[], guard := none }) (v := ?_) rfl (by kernel_rfl) (by kernel_rfl) (by kernel_rfl) (fun _ _ _ h => h) (Or.inl ⟨by rfl, ?_⟩) (by assumption) ?_
    rotate_left
    · intro w hSw
      (try dsimp only at hSw)
      first | (go_simp; done) | (go_simp; with_reducible rfl)
    (try simp only [Act.put, List.setIfInBounds_toArray, List.set_cons_zero, List.set_cons_succ])
    refine wpAnyH_ready (rs := [3]) (by kernel_rfl) (by simp) ?_
    refine AllReadyH.cons (o := { dst := some 19, op := .call { callee := .value (.func 108), args := #[.tmp 18, .const (Value.int IntKind.i64 0), .const (Value.int IntKind.i64 6)], argTypes := #[94, 2, 2] }, type := 2, pos := "l08_pages.go:69", after := #[⟨2, .data⟩], guard := none }) rfl (fun K hK => ?_) AllReadyH.nil
    go_simp
    go_at_call 108
    refine (rdOff w5.drew B g a len cap (HD5.out.rd.kept (w' := w5.drew) fun _ _ => rfl) 0 6 (by omega) (by omega) (by omega)).mono ?_
    rintro e z2 ⟨d2, rfl, hg1, hr1⟩
    have hg1' : w5.grownBy z2 (some g) := ⟨hg1.os, hg1.tape, hg1.output, hg1.size, hg1.block⟩
    have HD6 := Lib.hid (HD5.out.step hg1' hr1)
    have hcl6 : cb < z2.heap.size := Nat.lt_of_lt_of_le hcl5 hg1'.size
    have HC6 := Lib.hid ((hg1'.block cb (by omega) (by intro e; injection e with e; exact hcg e)).trans HC5.out)
    have hs6 := hg1'.size
    have HX6 := Lib.hid ((HX5.out.kept fun j h1 h2 => hg1'.block j (by omega) (by intro e; injection e with e; omega)).more (lo' := w1.heap.size) (hi' := z2.heap.size) (Nat.le_refl _) (by omega))
    have hS6 : z2.cell? ⟨cb, 0, none⟩ = some (.slice x.va 4 x.vc) ∧ z2.cell? ⟨cb, 1, none⟩ = some (.slice x.oa x.no x.oc) := pair_cells HC6.out
    clear hg1 hr1 hg1'
    refine hK.out _ _ hS6 (fun hHeld3 => ?_)
    clear hK K
    (try simp only [Act.put, List.setIfInBounds_toArray, List.set_cons_zero, List.set_cons_succ])
    have HXf := Lib.hid (HX6.out.more (lo' := w.heap.size) (hi' := z2.heap.size) (by omega) (Nat.le_refl _))
    obtain ⟨HR4, HX4, HB4⟩ := set_out HD6.out.ra HD6.out.bel HXf.out
    obtain ⟨r0, r1⟩ := pair_cells HD6.out.ra
    obtain ⟨f0, f1⟩ := pair_frozen HD6.out.ra
    have hSa : ((z2.setCell ⟨w.heap.size, 0, none⟩ (.slice x.va 4 x.vc)).setCell ⟨w.heap.size, 1, none⟩ (.slice x.oa x.no x.oc)).cell? ⟨cb, 0, none⟩ = some (.slice x.va 4 x.vc) ∧ ((z2.setCell ⟨w.heap.size, 0, none⟩ (.slice x.va 4 x.vc)).setCell ⟨w.heap.size, 1, none⟩ (.slice x.oa x.no x.oc)).cell? ⟨cb, 1, none⟩ = some (.slice x.oa x.no x.oc) := pair_cells ((pair_other _ _ (by omega)).trans HC6.out)
    refine wpAnyH_ready (rs := [4]) (by kernel_rfl) (by simp) ?_
    refine AllReadyH.cons (o := { dst := none, op := .store 27 (.tmp 2) (.tmp 16), type := 0, pos := "l08_pages.go:69", after := #[⟨0, .data⟩, ⟨3, .chain⟩, ⟨0, .phase⟩, ⟨1, .textOnly .lateStores⟩, ⟨2, .textOnly .lateStores⟩, ⟨3, .textOnly .lateStoresUnsure⟩], guard := none }) rfl (fun K hK => ?_) AllReadyH.nil
    go_simp
    refine hK.out _ _ hSa (fun hHeld4 => ?_)
    clear hK K
    (try simp only [Act.put, List.setIfInBounds_toArray, List.set_cons_zero, List.set_cons_succ])
    refine wpAnyH_take (i := 5) (oi := { dst := some 3, op := .assign (.tmp 17), type := 2, pos := "l08_pages.go:69", after := #[⟨1, .data⟩, ⟨4, .chain⟩, ⟨0, .phase⟩, ⟨1, .phase⟩, ⟨2, .textOnly .lateStores⟩, ⟨3, .textOnly .lateStoresUnsure⟩, ⟨4, .phase⟩], guard := none }) (v := ?_) rfl (by kernel_rfl) (by kernel_rfl) (by kernel_rfl) (fun _ _ _ h => h) (Or.inl ⟨by rfl, ?_⟩) (by assumption) ?_
    rotate_left
    · intro w hSw
      (try dsimp only at hSw)
      first | (go_simp; done) | (go_simp; with_reducible rfl)
    (try simp only [Act.put, List.setIfInBounds_toArray, List.set_cons_zero, List.set_cons_succ])
    refine wpAnyH_take (i := 6) (oi := { dst := some 4, op := .assign (.tmp 19), type := 2, pos := "l08_pages.go:69", after := #[⟨3, .data⟩, ⟨5, .chain⟩, ⟨0, .phase⟩, ⟨1, .phase⟩, ⟨2, .phase⟩, ⟨3, .phase⟩, ⟨4, .phase⟩, ⟨5, .phase⟩], guard := none }) (v := ?_) rfl (by kernel_rfl) (by kernel_rfl) (by kernel_rfl) (fun _ _ _ h => h) (Or.inl ⟨by rfl, ?_⟩) (by assumption) ?_
    rotate_left
    · intro w hSw
      (try dsimp only at hSw)
      first | (go_simp; done) | (go_simp; with_reducible rfl)
    (try simp only [Act.put, List.setIfInBounds_toArray, List.set_cons_zero, List.set_cons_succ])
    refine wpAnyH_done (by kernel_rfl) ?_ _
    clear r0 r1 f0 f1 hSa
    have HSz := Lib.hid (pair_size z2 w.heap.size (.slice x.va 4 x.vc) (.slice x.oa x.no x.oc))
    generalize (z2.setCell ⟨w.heap.size, 0, none⟩ (.slice x.va 4 x.vc)).setCell ⟨w.heap.size, 1, none⟩ (.slice x.oa x.no x.oc) = wf at HR4 HX4 HB4 HSz ⊢
    obtain ⟨q0, q1⟩ := pair_cells HR4.out
    go_wp2
    exact bodyPost_ret (v := .tuple #[.agg #[.slice x.va 4 x.vc, .slice x.oa x.no x.oc], .int .i64 d1, .int .i64 d2]) (by simp [results, Try.results33, go_sem, q0, q1]) rfl ⟨x, _, _, rfl, HX4.out, HB4.out⟩

set_option maxRecDepth 100000 in
set_option maxHeartbeats 80000000 in
theorem drawDeltaOf (w : World) (B : Nat) (a : Option Addr) (len cap : Nat) (hB : B ≤ w.heap.size) (h : Src w B a len) :
    Calls Try.prog 16 #[.slice a len cap] w (DrawsTwo w) := by
  have hT := Two.mk0 w #[.slice none 0 0, .slice none 0 0] #[.slice none 0 0, .slice none 0 0] 27
  have HS0 := Lib.hid (h.kept (w' := (w.alloc (.cells #[.slice none 0 0, .slice none 0 0] 27)).alloc (.cells #[.slice none 0 0, .slice none 0 0] 27)) fun k hk => hT.bel.block k (by omega))
  have HD0 : Hid (D3 w ((w.alloc (.cells #[.slice none 0 0, .slice none 0 0] 27)).alloc (.cells #[.slice none 0 0, .slice none 0 0] 27)) #[.slice none 0 0, .slice none 0 0] #[.slice none 0 0, .slice none 0 0]) := ⟨hT.fst, hT.snd, hT.bel⟩
  clear h hT
  go_enter Try.func16, Try.ntmps16
  go_wp2_with fail
  generalize (w.alloc (.cells #[.slice none 0 0, .slice none 0 0] 27)).alloc (.cells #[.slice none 0 0, .slice none 0 0] 27) = w0 at HS0 HD0 ⊢
  have hs0 := HD0.out.bel.size
  have hlt0 := lt_of_row HD0.out.rb
  refine (drawMerged w0 B a len cap (by omega) HS0.out).mono ?_
  rintro e w1 ⟨x, y, rfl, hx, hy, hb1⟩
  have HD1 := Lib.hid (HD0.out.next hb1)
  have hs1 := hb1.size
  obtain ⟨HE0, HE1, HE2⟩ := HD1.out.out (hx.more (by omega) (Nat.le_refl _)) (hy.more (by omega) (Nat.le_refl _))
  obtain ⟨r0, r1⟩ := pair_cells HD1.out.ra
  obtain ⟨f0, f1⟩ := pair_frozen HD1.out.ra
  obtain ⟨r2, r3⟩ := pair_cells HD1.out.rb
  obtain ⟨f2, f3⟩ := pair_frozen HD1.out.rb
  clear hx hy hb1 HD0 HD1 HS0
  go_wp2
  change bodyPost _ _ _ _ _ ((((w1.setCell ⟨w.heap.size, 0, none⟩ (.slice x.va 4 x.vc)).setCell ⟨w.heap.size, 1, none⟩ (.slice x.oa x.no x.oc)).setCell ⟨w.heap.size + 1, 0, none⟩ (.slice y.va 4 y.vc)).setCell ⟨w.heap.size + 1, 1, none⟩ (.slice y.oa y.no y.oc))
  generalize (((w1.setCell ⟨w.heap.size, 0, none⟩ (.slice x.va 4 x.vc)).setCell ⟨w.heap.size, 1, none⟩ (.slice x.oa x.no x.oc)).setCell ⟨w.heap.size + 1, 0, none⟩ (.slice y.va 4 y.vc)).setCell ⟨w.heap.size + 1, 1, none⟩ (.slice y.oa y.no y.oc) = wf at HE0 HE1 HE2 ⊢
  obtain ⟨q0, q1⟩ := pair_cells HE0.out
  obtain ⟨q2, q3⟩ := pair_cells HE1.out
  exact bodyPost_ret (v := .tuple #[.agg #[.slice x.va 4 x.vc, .slice x.oa x.no x.oc], .agg #[.slice y.va 4 y.vc, .slice y.oa y.no y.oc]]) (by simp [results, Try.results16, go_sem, q0, q1, q2, q3]) rfl HE2.out
end Go.Proofs.Ytmceofdknphgkaa
