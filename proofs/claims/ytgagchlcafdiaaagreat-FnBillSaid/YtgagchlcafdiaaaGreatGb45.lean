/- Walks and mathematics that several claims share, part 45. -/
import Derived.Test.YtgagchlcafdiaaaGreatGb34
import Derived.Test.YtgagchlcafdiaaaGreatGb3
import Derived.Deep.Cut
import Derived.Test.YtgagchlcafdiaaaGreatGbA
namespace Go.Proofs.YtgagchlcafdiaaaGreat
set_option maxRecDepth 100000
open Go.RowKit
set_option linter.unusedVariables false
set_option linter.unusedSimpArgs false
set_option linter.unusedVariables false
set_option linter.unusedSimpArgs false

set_option maxHeartbeats 40000000 in
theorem implPaidOf (w : World) (B : Nat) (a : Option Addr) (n c : Nat) (l : List OfV) (x : LnV) (h : Ofs w B a n l) (hB : B ≤ w.heap.size) (hn : n ≤ 1048576) (hok : OfsB l = true) (hx : x.ok = true) :
  Calls Tryz.prog 49 #[.agg #[.string x.item, .int .i64 x.qty, .bool x.saved], .slice a n c] w fun e w' => e = .returned (.int .i64 (qtyPaid l x)) ∧ Below w.heap.size w w' := by
 have hb0 : Below w.heap.size w (w.alloc (.cells #[.string x.item, .int .i64 x.qty, .bool x.saved] 40)) := (Below.refl _ w).alloc (Nat.le_refl _) _
 have HX := Lib.hid (heap_alloc_new w (.cells #[.string x.item, .int .i64 x.qty, .bool x.saved] 40))
 have HO := Lib.hid (h.below hb0 hB)
 have HB := Lib.hid hb0
 have HInc := Lib.hid (ofs_parts hok).2.1
 have HOk := Lib.hid hok
 have HXo := Lib.hid hx
 have hsz : w.heap.size < (w.alloc (.cells #[.string x.item, .int .i64 x.qty, .bool x.saved] 40)).heap.size := by show _ < (w.heap.push _).size; simp
 clear h hb0 hok hx
 go_enter Tryz.func49, Tryz.ntmps49
 go_upto_region 1 with fail
 rename_i KR hKR
 generalize w.alloc (.cells #[.string x.item, .int .i64 x.qty, .bool x.saved] 40) = w1 at HX HO HB hsz ⊢
 have hKall : ∀ (P : Nat) (O : OfV) (u7 u8 u9 u10 u11 u12 u13 u14 u15 : Value) (w3 : World), O = (findO l x.item).getD OfV.zero → Below w1.heap.size w1 w3 → Hid (w3.heap[P]? = some (.cells #[.string (O.item), .int .i64 (O.buy), .int .i64 (O.free)] 59 (0, 0))) → KR { tmps := #[.agg #[.string x.item, .int .i64 x.qty, .bool x.saved], .slice a n c, .pointer (some ⟨w.heap.size, 0, none⟩), undef, .int .i64 0, .pointer (some ⟨P, 0, none⟩), .bool ((findO l x.item).isSome), u7, u8, u9, u10, u11, u12, u13, u14, u15, undef, undef, undef, undef, undef, undef, undef, undef], defers := [] } w3 := by
  intro P O u7 u8 u9 u10 u11 u12 u13 u14 u15 w3 hO hb HP
  have HX3 := (hb.block _ hsz).trans HX.out
  have HB3 := Lib.hid (HB.out.trans (hb.mono (by omega)))
  have d1 : w3.cell? ⟨w.heap.size, 1, none⟩ = some (.int .i64 x.qty) := (cell_of_row _ _ _ _ _ _ HX3).trans rfl
  obtain ⟨e0, e1, e2⟩ := threeO HP.out
  apply hKR
  clear hKR HX3 hb
  have HV : Hid (qtyPaid l x = match findO l x.item with | none => x.qty | some o => paidZ x.qty o.buy o.free) := rfl
  cases hf : findO l x.item with
  | none =>
   rw [hf] at HV
   clear hf
   go_wp2
   refine bodyPost_ret (v := .int .i64 x.qty) (by simp [results, Tryz.results49, go_sem]) rfl ⟨by show _ = Ending.returned (.int .i64 (qtyPaid l x)); rw [HV.out], HB3.out⟩
  | some o =>
   rw [hf] at HV hO
   have hoe : O = o := hO
   subst hoe
   have HPb : Hid (paidB x.qty O.item O.buy O.free = paidZ x.qty O.buy O.free) := paid_yes (findO_ok HOk.out hf) (inB_iff.2 ⟨by have := (ln_ok HXo.out).2.1; omega, (ln_ok HXo.out).2.2⟩)
   clear hO hf
   go_wp2_with fail
   refine (implPaid x.qty O.item O.buy O.free w3).mono ?_
   rintro e w4 ⟨rfl, hb4⟩
   have HB4 := Lib.hid (HB3.out.trans (hb4.mono HB3.out.size))
   rw [HPb.out]
   go_wp2
   exact bodyPost_ret (v := .int .i64 (paidZ x.qty O.buy O.free)) (by simp [results, Tryz.results49, go_sem]) rfl ⟨by show _ = Ending.returned (.int .i64 (qtyPaid l x)); rw [HV.out], HB4.out⟩
 obtain ⟨z0, hz0e⟩ : ∃ z0, w1.drew = z0 := ⟨_, rfl⟩
 have g0 : Below w1.heap.size w1 z0 := by rw [← hz0e]; exact ⟨rfl, rfl, rfl, Nat.le_refl _, fun _ _ => rfl⟩
 have hx0 := (g0.block _ hsz).trans HX.out
 have Sz0 : z0.cell? ⟨w.heap.size, 0, none⟩ = some (.string x.item) := (cell_of_row _ _ _ _ _ _ hx0).trans rfl
 refine wp_region_held_drew (S := fun w' => w'.cell? ⟨w.heap.size, 0, none⟩ = some (.string x.item)) (by kernel_rfl) (by rw [hz0e]; exact Sz0) (fun hHeld => ?_)
 rw [hz0e]
 clear hHeld hz0e
 refine tj 0 ?_
 refine tj 2 ?_
 refine tj 3 ?_
 refine tj 4 ?_
 refine wpAnyH_ready (rs := [1, 9]) (by kernel_rfl) (by simp) ?_
 refine AllReadyH.cons rfl (fun K hK => ?_) (AllReadyH.cons rfl (fun K hK => ?_) (AllReadyH.nil))
 ·skip
  go_simp
  go_at_call 45
  refine (Oflist z0 a n c).mono ?_
  rintro e z1 ⟨⟨gg, rfl, hgc⟩, tz1⟩
  have g1 : Below w1.heap.size w1 z1 := g0.trans (tz1.mono g0.size)
  have Sz1 : z1.cell? ⟨w.heap.size, 0, none⟩ = some (.string x.item) := (tz1.cell (block_lt_of_cell Sz0)).trans Sz0
  refine hK.out _ _ Sz1 (fun hHeld2 => ?_)
  clear hK K hHeld2
  (try simp only [Act.put, u1, u2, u3])
  refine wpAnyH_ready (rs := [5, 9]) (by kernel_rfl) (by simp) ?_
  refine AllReadyH.cons rfl (fun K hK => ?_) (AllReadyH.cons rfl (fun K hK => ?_) (AllReadyH.nil))
  ·skip
   go_simp
   go_at_call 79
   refine (counterOf z1 w.heap.size.succ a n c gg l ⟨x.item, 0, 0⟩ (HO.out.below g1 (by omega) |>.more (by omega)) (by have := g1.size; omega) hn HInc.out hgc).mono ?_
   rintro e z2 ⟨⟨O, b, rfl, hof⟩, tz2⟩
   obtain ⟨hO, rfl⟩ := offer_val HInc.out hof
   have HOf := Lib.hid hO
   clear hof hO
   have g2 : Below w1.heap.size w1 z2 := g1.trans (tz2.mono g1.size)
   have Sz2 : z2.cell? ⟨w.heap.size, 0, none⟩ = some (.string x.item) := (tz2.cell (block_lt_of_cell Sz1)).trans Sz1
   refine hK.out _ _ Sz2 (fun hHeld3 => ?_)
   clear hK K hHeld3
   (try simp only [Act.put, u1, u2, u3])
   refine tj 6 ?_
   refine tj 7 ?_
   refine tj 8 ?_
   refine wpAnyH_ready (rs := [9]) (by kernel_rfl) (by simp) ?_
   refine AllReadyH.cons rfl (fun K hK => ?_) (AllReadyH.nil)
   have talloc : Below z2.heap.size z2 (z2.alloc (.cells #[.string ⟨#[]⟩, .int .i64 0, .int .i64 0] 59)) := bl
   have hboxn := Lib.hid (boxAt (Below.refl _ (z2.alloc (.cells #[.string ⟨#[]⟩, .int .i64 0, .int .i64 0] 59))))
   have Salloc : (z2.alloc (.cells #[.string ⟨#[]⟩, .int .i64 0, .int .i64 0] 59)).cell? ⟨w.heap.size, 0, none⟩ = some (.string x.item) := (talloc.cell (block_lt_of_cell Sz2)).trans Sz2
   have galloc : Below w1.heap.size w1 (z2.alloc (.cells #[.string ⟨#[]⟩, .int .i64 0, .int .i64 0] 59)) := g2.trans (talloc.mono g2.size)
   go_simp
   refine hK.out _ _ Salloc (fun hHeldA => ?_)
   clear hK K hHeldA
   (try simp only [Act.put, u1, u2, u3])
   generalize z2.alloc (.cells #[.string ⟨#[]⟩, .int .i64 0, .int .i64 0] 59) = z3 at talloc hboxn Salloc galloc ⊢
   have tz3 := talloc
   have hboxz3 := hboxn
   have Sz3 := Salloc
   have g3 := galloc
   clear talloc hboxn Salloc galloc
   obtain ⟨r0, r1, r2⟩ := threeO hboxz3.out
   have f0 : z3.frozen? ⟨z2.heap.size, 0, none⟩ = false := frozen_of_row _ _ _ _ _ hboxz3.out
   have f1 : z3.frozen? ⟨z2.heap.size, 1, none⟩ = false := frozen_of_row _ _ _ _ _ hboxz3.out
   have f2 : z3.frozen? ⟨z2.heap.size, 2, none⟩ = false := frozen_of_row _ _ _ _ _ hboxz3.out
   have hbw := g2.size
   have HPf : Hid ((((z3.setCell ⟨z2.heap.size, 0, none⟩ (.string O.item)).setCell ⟨z2.heap.size, 1, none⟩ (.int .i64 O.buy)).setCell ⟨z2.heap.size, 2, none⟩ (.int .i64 O.free)).heap[z2.heap.size]? = some (.cells #[.string O.item, .int .i64 O.buy, .int .i64 O.free] 59 (0, 0))) := heap_setCell_same _ _ 2 _ _ (.int .i64 O.free) (heap_setCell_same _ _ 1 _ _ (.int .i64 O.buy) (heap_setCell_same _ _ 0 _ _ (.string O.item) hboxz3.out))
   have gf : Below w1.heap.size w1 (((z3.setCell ⟨z2.heap.size, 0, none⟩ (.string O.item)).setCell ⟨z2.heap.size, 1, none⟩ (.int .i64 O.buy)).setCell ⟨z2.heap.size, 2, none⟩ (.int .i64 O.free)) := ((g3.setCell (p := ⟨z2.heap.size, 0, none⟩) hbw (.string O.item)).setCell (p := ⟨z2.heap.size, 1, none⟩) hbw (.int .i64 O.buy)).setCell (p := ⟨z2.heap.size, 2, none⟩) hbw (.int .i64 O.free)
   have Szf : (((z3.setCell ⟨z2.heap.size, 0, none⟩ (.string O.item)).setCell ⟨z2.heap.size, 1, none⟩ (.int .i64 O.buy)).setCell ⟨z2.heap.size, 2, none⟩ (.int .i64 O.free)).cell? ⟨w.heap.size, 0, none⟩ = some (.string x.item) := (gf.cell hsz).trans ((cell_of_row _ _ _ _ _ _ HX.out).trans rfl)
   refine wpAnyH_ready (rs := [10]) (by kernel_rfl) (by simp) ?_
   refine AllReadyH.cons rfl (fun K hK => ?_) (AllReadyH.nil)
   go_simp
   refine hK.out _ _ Szf (fun hHeldB => ?_)
   clear hK K hHeldB r0 r1 r2 f0 f1 f2
   (try simp only [Act.put, u1, u2, u3])
   refine tj 11 ?_
   refine wpAnyH_done (by kernel_rfl) ?_ _
   exact hKall _ O _ _ _ _ _ _ _ _ _ _ HOf.out gf HPf
  ·skip
   have talloc : Below z1.heap.size z1 (z1.alloc (.cells #[.string ⟨#[]⟩, .int .i64 0, .int .i64 0] 59)) := bl
   have hboxn := Lib.hid (boxAt (Below.refl _ (z1.alloc (.cells #[.string ⟨#[]⟩, .int .i64 0, .int .i64 0] 59))))
   have Salloc : (z1.alloc (.cells #[.string ⟨#[]⟩, .int .i64 0, .int .i64 0] 59)).cell? ⟨w.heap.size, 0, none⟩ = some (.string x.item) := (talloc.cell (block_lt_of_cell Sz1)).trans Sz1
   have galloc : Below w1.heap.size w1 (z1.alloc (.cells #[.string ⟨#[]⟩, .int .i64 0, .int .i64 0] 59)) := g1.trans (talloc.mono g1.size)
   go_simp
   refine hK.out _ _ Salloc (fun hHeldA => ?_)
   clear hK K hHeldA
   (try simp only [Act.put, u1, u2, u3])
   generalize z1.alloc (.cells #[.string ⟨#[]⟩, .int .i64 0, .int .i64 0] 59) = z4 at talloc hboxn Salloc galloc ⊢
   have tz4 := talloc
   have hboxz4 := hboxn
   have Sz4 := Salloc
   have g4 := galloc
   clear talloc hboxn Salloc galloc
   have hgc := (tz4.cell (block_lt_of_cell hgc)).trans hgc
   refine wpAnyH_ready (rs := [5]) (by kernel_rfl) (by simp) ?_
   refine AllReadyH.cons rfl (fun K hK => ?_) (AllReadyH.nil)
   go_simp
   go_at_call 79
   refine (counterOf z4 w.heap.size.succ a n c gg l ⟨x.item, 0, 0⟩ (HO.out.below g4 (by omega) |>.more (by omega)) (by have := g4.size; omega) hn HInc.out hgc).mono ?_
   rintro e z5 ⟨⟨O, b, rfl, hof⟩, tz5⟩
   obtain ⟨hO, rfl⟩ := offer_val HInc.out hof
   have HOf := Lib.hid hO
   clear hof hO
   have g5 : Below w1.heap.size w1 z5 := g4.trans (tz5.mono g4.size)
   have Sz5 : z5.cell? ⟨w.heap.size, 0, none⟩ = some (.string x.item) := (tz5.cell (block_lt_of_cell Sz4)).trans Sz4
   refine hK.out _ _ Sz5 (fun hHeld3 => ?_)
   clear hK K hHeld3
   (try simp only [Act.put, u1, u2, u3])
   refine tj 6 ?_
   refine tj 7 ?_
   refine tj 8 ?_
   have hboxz5 := Lib.hid ((tz5.block _ (lt_of_row hboxz4.out)).trans hboxz4.out)
   obtain ⟨r0, r1, r2⟩ := threeO hboxz5.out
   have f0 : z5.frozen? ⟨z1.heap.size, 0, none⟩ = false := frozen_of_row _ _ _ _ _ hboxz5.out
   have f1 : z5.frozen? ⟨z1.heap.size, 1, none⟩ = false := frozen_of_row _ _ _ _ _ hboxz5.out
   have f2 : z5.frozen? ⟨z1.heap.size, 2, none⟩ = false := frozen_of_row _ _ _ _ _ hboxz5.out
   have hbw := g1.size
   have HPf : Hid ((((z5.setCell ⟨z1.heap.size, 0, none⟩ (.string O.item)).setCell ⟨z1.heap.size, 1, none⟩ (.int .i64 O.buy)).setCell ⟨z1.heap.size, 2, none⟩ (.int .i64 O.free)).heap[z1.heap.size]? = some (.cells #[.string O.item, .int .i64 O.buy, .int .i64 O.free] 59 (0, 0))) := heap_setCell_same _ _ 2 _ _ (.int .i64 O.free) (heap_setCell_same _ _ 1 _ _ (.int .i64 O.buy) (heap_setCell_same _ _ 0 _ _ (.string O.item) hboxz5.out))
   have gf : Below w1.heap.size w1 (((z5.setCell ⟨z1.heap.size, 0, none⟩ (.string O.item)).setCell ⟨z1.heap.size, 1, none⟩ (.int .i64 O.buy)).setCell ⟨z1.heap.size, 2, none⟩ (.int .i64 O.free)) := ((g5.setCell (p := ⟨z1.heap.size, 0, none⟩) hbw (.string O.item)).setCell (p := ⟨z1.heap.size, 1, none⟩) hbw (.int .i64 O.buy)).setCell (p := ⟨z1.heap.size, 2, none⟩) hbw (.int .i64 O.free)
   have Szf : (((z5.setCell ⟨z1.heap.size, 0, none⟩ (.string O.item)).setCell ⟨z1.heap.size, 1, none⟩ (.int .i64 O.buy)).setCell ⟨z1.heap.size, 2, none⟩ (.int .i64 O.free)).cell? ⟨w.heap.size, 0, none⟩ = some (.string x.item) := (gf.cell hsz).trans ((cell_of_row _ _ _ _ _ _ HX.out).trans rfl)
   refine wpAnyH_ready (rs := [10]) (by kernel_rfl) (by simp) ?_
   refine AllReadyH.cons rfl (fun K hK => ?_) (AllReadyH.nil)
   go_simp
   refine hK.out _ _ Szf (fun hHeldB => ?_)
   clear hK K hHeldB r0 r1 r2 f0 f1 f2
   (try simp only [Act.put, u1, u2, u3])
   refine tj 11 ?_
   refine wpAnyH_done (by kernel_rfl) ?_ _
   exact hKall _ O _ _ _ _ _ _ _ _ _ _ HOf.out gf HPf
 ·skip
  have talloc : Below z0.heap.size z0 (z0.alloc (.cells #[.string ⟨#[]⟩, .int .i64 0, .int .i64 0] 59)) := bl
  have hboxn := Lib.hid (boxAt (Below.refl _ (z0.alloc (.cells #[.string ⟨#[]⟩, .int .i64 0, .int .i64 0] 59))))
  have Salloc : (z0.alloc (.cells #[.string ⟨#[]⟩, .int .i64 0, .int .i64 0] 59)).cell? ⟨w.heap.size, 0, none⟩ = some (.string x.item) := (talloc.cell (block_lt_of_cell Sz0)).trans Sz0
  have galloc : Below w1.heap.size w1 (z0.alloc (.cells #[.string ⟨#[]⟩, .int .i64 0, .int .i64 0] 59)) := g0.trans (talloc.mono g0.size)
  go_simp
  refine hK.out _ _ Salloc (fun hHeldA => ?_)
  clear hK K hHeldA
  (try simp only [Act.put, u1, u2, u3])
  generalize z0.alloc (.cells #[.string ⟨#[]⟩, .int .i64 0, .int .i64 0] 59) = z6 at talloc hboxn Salloc galloc ⊢
  have tz6 := talloc
  have hboxz6 := hboxn
  have Sz6 := Salloc
  have g6 := galloc
  clear talloc hboxn Salloc galloc
  refine wpAnyH_ready (rs := [1]) (by kernel_rfl) (by simp) ?_
  refine AllReadyH.cons rfl (fun K hK => ?_) (AllReadyH.nil)
  go_simp
  go_at_call 45
  refine (Oflist z6 a n c).mono ?_
  rintro e z7 ⟨⟨gg, rfl, hgc⟩, tz7⟩
  have g7 : Below w1.heap.size w1 z7 := g6.trans (tz7.mono g6.size)
  have Sz7 : z7.cell? ⟨w.heap.size, 0, none⟩ = some (.string x.item) := (tz7.cell (block_lt_of_cell Sz6)).trans Sz6
  refine hK.out _ _ Sz7 (fun hHeld2 => ?_)
  clear hK K hHeld2
  (try simp only [Act.put, u1, u2, u3])
  have hboxz7 := Lib.hid ((tz7.block _ (lt_of_row hboxz6.out)).trans hboxz6.out)
  refine wpAnyH_ready (rs := [5]) (by kernel_rfl) (by simp) ?_
  refine AllReadyH.cons rfl (fun K hK => ?_) (AllReadyH.nil)
  go_simp
  go_at_call 79
  refine (counterOf z7 w.heap.size.succ a n c gg l ⟨x.item, 0, 0⟩ (HO.out.below g7 (by omega) |>.more (by omega)) (by have := g7.size; omega) hn HInc.out hgc).mono ?_
  rintro e z8 ⟨⟨O, b, rfl, hof⟩, tz8⟩
  obtain ⟨hO, rfl⟩ := offer_val HInc.out hof
  have HOf := Lib.hid hO
  clear hof hO
  have g8 : Below w1.heap.size w1 z8 := g7.trans (tz8.mono g7.size)
  have Sz8 : z8.cell? ⟨w.heap.size, 0, none⟩ = some (.string x.item) := (tz8.cell (block_lt_of_cell Sz7)).trans Sz7
  refine hK.out _ _ Sz8 (fun hHeld3 => ?_)
  clear hK K hHeld3
  (try simp only [Act.put, u1, u2, u3])
  refine tj 6 ?_
  refine tj 7 ?_
  refine tj 8 ?_
  have hboxz8 := Lib.hid ((tz8.block _ (lt_of_row hboxz7.out)).trans hboxz7.out)
  obtain ⟨r0, r1, r2⟩ := threeO hboxz8.out
  have f0 : z8.frozen? ⟨z0.heap.size, 0, none⟩ = false := frozen_of_row _ _ _ _ _ hboxz8.out
  have f1 : z8.frozen? ⟨z0.heap.size, 1, none⟩ = false := frozen_of_row _ _ _ _ _ hboxz8.out
  have f2 : z8.frozen? ⟨z0.heap.size, 2, none⟩ = false := frozen_of_row _ _ _ _ _ hboxz8.out
  have hbw := g0.size
  have HPf : Hid ((((z8.setCell ⟨z0.heap.size, 0, none⟩ (.string O.item)).setCell ⟨z0.heap.size, 1, none⟩ (.int .i64 O.buy)).setCell ⟨z0.heap.size, 2, none⟩ (.int .i64 O.free)).heap[z0.heap.size]? = some (.cells #[.string O.item, .int .i64 O.buy, .int .i64 O.free] 59 (0, 0))) := heap_setCell_same _ _ 2 _ _ (.int .i64 O.free) (heap_setCell_same _ _ 1 _ _ (.int .i64 O.buy) (heap_setCell_same _ _ 0 _ _ (.string O.item) hboxz8.out))
  have gf : Below w1.heap.size w1 (((z8.setCell ⟨z0.heap.size, 0, none⟩ (.string O.item)).setCell ⟨z0.heap.size, 1, none⟩ (.int .i64 O.buy)).setCell ⟨z0.heap.size, 2, none⟩ (.int .i64 O.free)) := ((g8.setCell (p := ⟨z0.heap.size, 0, none⟩) hbw (.string O.item)).setCell (p := ⟨z0.heap.size, 1, none⟩) hbw (.int .i64 O.buy)).setCell (p := ⟨z0.heap.size, 2, none⟩) hbw (.int .i64 O.free)
  have Szf : (((z8.setCell ⟨z0.heap.size, 0, none⟩ (.string O.item)).setCell ⟨z0.heap.size, 1, none⟩ (.int .i64 O.buy)).setCell ⟨z0.heap.size, 2, none⟩ (.int .i64 O.free)).cell? ⟨w.heap.size, 0, none⟩ = some (.string x.item) := (gf.cell hsz).trans ((cell_of_row _ _ _ _ _ _ HX.out).trans rfl)
  refine wpAnyH_ready (rs := [10]) (by kernel_rfl) (by simp) ?_
  refine AllReadyH.cons rfl (fun K hK => ?_) (AllReadyH.nil)
  go_simp
  refine hK.out _ _ Szf (fun hHeldB => ?_)
  clear hK K hHeldB r0 r1 r2 f0 f1 f2
  (try simp only [Act.put, u1, u2, u3])
  refine tj 11 ?_
  refine wpAnyH_done (by kernel_rfl) ?_ _
  exact hKall _ O _ _ _ _ _ _ _ _ _ _ HOf.out gf HPf
end Go.Proofs.YtgagchlcafdiaaaGreat
