/- The walk of impl.stateOf: a loop over the iterator of live operations. -/
import Derived.Test.YtideaompdbdbhaaStateW
import Derived.Lib.MinMax
namespace Go.Proofs.Ytideaompdbdbhaa
open Go.RowKit Go.Shelf
attribute [local go_sem] Oper.semAt_some

set_option maxRecDepth 100000 in
set_option maxHeartbeats 4000000 in
theorem keeps_below {B : Nat} {W W' : World} (h : Below W.heap.size W W') : KeepsFrom B W W' := KeepsFrom.of_grownBy (below_grown h) (fun j e => by cases e)
theorem setRow_size (W : World) (g : Nat) (cs : Array Value) : (W.setRow g cs).heap.size = W.heap.size := by simp [World.setRow]
theorem keeps_setRow {B g : Nat} {W : World} {cs : Array Value} (h : g < B) : KeepsFrom B W (W.setRow g cs) := KeepsFrom.of_grownBy (row := some g) ⟨rfl, rfl, rfl, Nat.le_of_eq (setRow_size W g cs).symm, fun k _ hne => setRow_other W g k cs (fun e => hne (by rw [e]))⟩ (fun j e => by cases e; exact h)
theorem text_ext {a b : ByteArray} (h : a.toList = b.toList) : a = b := by
  rw [Lib.toList_data, Lib.toList_data] at h
  exact ByteArray.ext (Array.toList_inj.1 h)
theorem Try.sizeOp : (Try.prog.info? 54).map (·.size) = some 8 := by kernel_rfl
theorem OpV.infoOp (o : OpV) : (Try.prog.info? 54).map (·.size) = some o.cells.size := by show _ = some 8; exact Try.sizeOp
set_option maxRecDepth 100000 in
set_option maxHeartbeats 4000000 in
theorem stateOfW (w : World) (B : Nat) (av ao : Option Addr) (nv cv no co : Nat) (xs : List Int) (l : List OpV) (item : ByteArray) (hx : Ints w B av nv xs) (h : Ops w B ao no l) (hB : B ≤ w.heap.size) (hv : nv ≤ 1048576) (hc : no ≤ co) (hc2 : co ≤ 1048576) : Calls Try.prog 38 #[.agg #[.slice av nv cv, .slice ao no co], .string item] w fun e w' => e = .returned (.agg (stateV item (counted xs l)).cells) ∧ Below w.heap.size w w' := by
  have HX := Lib.hid (hx.more hB)
  have HO := Lib.hid (h.more hB)
  clear hx h hB
  refine (callsIn_wide (n := 8)).1 ?_
  refine callsIn_of_wp_marks Try.func38 rfl trivial ?_ rfl
  simp only [Try.ntmps38, List.size_toArray, List.length_cons, List.length_nil, Nat.reduceAdd, Nat.reduceSub, Array.replicate_succ, Array.replicate_zero, List.push_toArray, List.append_toArray, List.nil_append, List.cons_append]
  gi_wp2_with fail
  refine ⟨trivial, (liveOps _ _ _).mono ?_⟩
  rintro e w' ⟨rfl, rfl⟩
  have hb1 := (((Boxed.new (w.alloc (.cells #[.slice av nv cv, .slice ao no co] 37)) 9 (.string item)).alloc (.cells #[.int .i64 0, .int .i64 0, .int .i64 0, .int .i64 0, .int .i64 0, .string ⟨#[]⟩, .int .i64 0, .int .i64 0, .int .i64 0, .int .i64 0, .int .i64 0, .int .i64 0, .int .i64 0, .string ⟨#[]⟩, .int .i64 0, .int .i64 0, .int .i64 0] 56)).alloc (.cells #[.int .i64 0, .int .i64 0, .int .i64 0, .int .i64 0, .int .i64 0, .string ⟨#[]⟩, .int .i64 0, .int .i64 0, .int .i64 0, .int .i64 0, .int .i64 0, .int .i64 0, .int .i64 0, .string ⟨#[]⟩, .int .i64 0, .int .i64 0, .int .i64 0] 56)).alloc (.cells #[.slice av nv cv, .slice ao no co] 37)
  have hb2 : (((((w.alloc (.cells #[.slice av nv cv, .slice ao no co] 37)).alloc (.cells #[.string item] 9)).alloc (.cells #[.int .i64 0, .int .i64 0, .int .i64 0, .int .i64 0, .int .i64 0, .string ⟨#[]⟩, .int .i64 0, .int .i64 0, .int .i64 0, .int .i64 0, .int .i64 0, .int .i64 0, .int .i64 0, .string ⟨#[]⟩, .int .i64 0, .int .i64 0, .int .i64 0] 56)).alloc (.cells #[.int .i64 0, .int .i64 0, .int .i64 0, .int .i64 0, .int .i64 0, .string ⟨#[]⟩, .int .i64 0, .int .i64 0, .int .i64 0, .int .i64 0, .int .i64 0, .int .i64 0, .int .i64 0, .string ⟨#[]⟩, .int .i64 0, .int .i64 0, .int .i64 0] 56)).alloc (.cells #[.slice av nv cv, .slice ao no co] 37)).heap[w.heap.size + 1 + 1]? = some (.cells #[.int .i64 0, .int .i64 0, .int .i64 0, .int .i64 0, .int .i64 0, .string ⟨#[]⟩, .int .i64 0, .int .i64 0, .int .i64 0, .int .i64 0, .int .i64 0, .int .i64 0, .int .i64 0, .string ⟨#[]⟩, .int .i64 0, .int .i64 0, .int .i64 0] 56 (0, 0)) := by
    have e : ((w.alloc (.cells #[.slice av nv cv, .slice ao no co] 37)).alloc (.cells #[.string item] 9)).heap.size = w.heap.size + 1 + 1 := by simp
    rw [Below.heap_alloc _ _ _ (by simp), Below.heap_alloc _ _ _ (by simp), ← e]
    exact World.alloc_heap_new _ _
  have hb3 : (((((w.alloc (.cells #[.slice av nv cv, .slice ao no co] 37)).alloc (.cells #[.string item] 9)).alloc (.cells #[.int .i64 0, .int .i64 0, .int .i64 0, .int .i64 0, .int .i64 0, .string ⟨#[]⟩, .int .i64 0, .int .i64 0, .int .i64 0, .int .i64 0, .int .i64 0, .int .i64 0, .int .i64 0, .string ⟨#[]⟩, .int .i64 0, .int .i64 0, .int .i64 0] 56)).alloc (.cells #[.int .i64 0, .int .i64 0, .int .i64 0, .int .i64 0, .int .i64 0, .string ⟨#[]⟩, .int .i64 0, .int .i64 0, .int .i64 0, .int .i64 0, .int .i64 0, .int .i64 0, .int .i64 0, .string ⟨#[]⟩, .int .i64 0, .int .i64 0, .int .i64 0] 56)).alloc (.cells #[.slice av nv cv, .slice ao no co] 37)).heap[w.heap.size + 1 + 1 + 1]? = some (.cells #[.int .i64 0, .int .i64 0, .int .i64 0, .int .i64 0, .int .i64 0, .string ⟨#[]⟩, .int .i64 0, .int .i64 0, .int .i64 0, .int .i64 0, .int .i64 0, .int .i64 0, .int .i64 0, .string ⟨#[]⟩, .int .i64 0, .int .i64 0, .int .i64 0] 56 (0, 0)) := by
    have e : (((w.alloc (.cells #[.slice av nv cv, .slice ao no co] 37)).alloc (.cells #[.string item] 9)).alloc (.cells #[.int .i64 0, .int .i64 0, .int .i64 0, .int .i64 0, .int .i64 0, .string ⟨#[]⟩, .int .i64 0, .int .i64 0, .int .i64 0, .int .i64 0, .int .i64 0, .int .i64 0, .int .i64 0, .string ⟨#[]⟩, .int .i64 0, .int .i64 0, .int .i64 0] 56)).heap.size = w.heap.size + 1 + 1 + 1 := by simp
    rw [Below.heap_alloc _ _ _ (by simp), ← e]
    exact World.alloc_heap_new _ _
  have hb4 := boxAt (Below.refl _ (((((w.alloc (.cells #[.slice av nv cv, .slice ao no co] 37)).alloc (.cells #[.string item] 9)).alloc (.cells #[.int .i64 0, .int .i64 0, .int .i64 0, .int .i64 0, .int .i64 0, .string ⟨#[]⟩, .int .i64 0, .int .i64 0, .int .i64 0, .int .i64 0, .int .i64 0, .int .i64 0, .int .i64 0, .string ⟨#[]⟩, .int .i64 0, .int .i64 0, .int .i64 0] 56)).alloc (.cells #[.int .i64 0, .int .i64 0, .int .i64 0, .int .i64 0, .int .i64 0, .string ⟨#[]⟩, .int .i64 0, .int .i64 0, .int .i64 0, .int .i64 0, .int .i64 0, .int .i64 0, .int .i64 0, .string ⟨#[]⟩, .int .i64 0, .int .i64 0, .int .i64 0] 56)).alloc (.cells #[.slice av nv cv, .slice ao no co] 37)))
  have hB0 : Below w.heap.size w (((((w.alloc (.cells #[.slice av nv cv, .slice ao no co] 37)).alloc (.cells #[.string item] 9)).alloc (.cells #[.int .i64 0, .int .i64 0, .int .i64 0, .int .i64 0, .int .i64 0, .string ⟨#[]⟩, .int .i64 0, .int .i64 0, .int .i64 0, .int .i64 0, .int .i64 0, .int .i64 0, .int .i64 0, .string ⟨#[]⟩, .int .i64 0, .int .i64 0, .int .i64 0] 56)).alloc (.cells #[.int .i64 0, .int .i64 0, .int .i64 0, .int .i64 0, .int .i64 0, .string ⟨#[]⟩, .int .i64 0, .int .i64 0, .int .i64 0, .int .i64 0, .int .i64 0, .int .i64 0, .int .i64 0, .string ⟨#[]⟩, .int .i64 0, .int .i64 0, .int .i64 0] 56)).alloc (.cells #[.slice av nv cv, .slice ao no co] 37)) := (((((Below.refl _ w).alloc (Nat.le_refl _) _).alloc (by simp) _).alloc (by simp; omega) _).alloc (by simp; omega) _).alloc (by simp; omega) _
  have hsz : (((((w.alloc (.cells #[.slice av nv cv, .slice ao no co] 37)).alloc (.cells #[.string item] 9)).alloc (.cells #[.int .i64 0, .int .i64 0, .int .i64 0, .int .i64 0, .int .i64 0, .string ⟨#[]⟩, .int .i64 0, .int .i64 0, .int .i64 0, .int .i64 0, .int .i64 0, .int .i64 0, .int .i64 0, .string ⟨#[]⟩, .int .i64 0, .int .i64 0, .int .i64 0] 56)).alloc (.cells #[.int .i64 0, .int .i64 0, .int .i64 0, .int .i64 0, .int .i64 0, .string ⟨#[]⟩, .int .i64 0, .int .i64 0, .int .i64 0, .int .i64 0, .int .i64 0, .int .i64 0, .int .i64 0, .string ⟨#[]⟩, .int .i64 0, .int .i64 0, .int .i64 0] 56)).alloc (.cells #[.slice av nv cv, .slice ao no co] 37)).heap.size = w.heap.size + 1 + 1 + 1 + 1 + 1 := by simp
  simp only [World.size_alloc] at hb1 hb4
  gi_wp2
  generalize (((((w.alloc (.cells #[.slice av nv cv, .slice ao no co] 37)).alloc (.cells #[.string item] 9)).alloc (.cells #[.int .i64 0, .int .i64 0, .int .i64 0, .int .i64 0, .int .i64 0, .string ⟨#[]⟩, .int .i64 0, .int .i64 0, .int .i64 0, .int .i64 0, .int .i64 0, .int .i64 0, .int .i64 0, .string ⟨#[]⟩, .int .i64 0, .int .i64 0, .int .i64 0] 56)).alloc (.cells #[.int .i64 0, .int .i64 0, .int .i64 0, .int .i64 0, .int .i64 0, .string ⟨#[]⟩, .int .i64 0, .int .i64 0, .int .i64 0, .int .i64 0, .int .i64 0, .int .i64 0, .int .i64 0, .string ⟨#[]⟩, .int .i64 0, .int .i64 0, .int .i64 0] 56)).alloc (.cells #[.slice av nv cv, .slice ao no co] 37)) = W0 at hb1 hb2 hb3 hb4 hB0 hsz ⊢
  rw [← zero17] at hb3
  refine wpIn_rangeFunc_ownH rfl (by omega) (gf := 63) (lb := #[.pointer (some ⟨w.heap.size + 1 + 1 + 1 + 1, 0, none⟩)]) rfl trivial (enters_of Try.func63 (by kernel_rfl) rfl)
    (live_stops _ (by omega) (w.heap.size + 1 + 1 + 1 + 1) w.heap.size av ao nv cv no co xs l hv hc hc2 W0 hb4 (HX.out.below hB0 (Nat.le_refl _)) (HO.out.below hB0 (Nat.le_refl _)) (by omega))
    belowK_t (belowK_b (by omega)) (Below.refl _ _) (fun _ => rfl)
    (fun pre W => (Boxed W (w.heap.size + 1) 9 (.string item) ∧ W.heap[w.heap.size + 1 + 1]? = some (.cells #[.int .i64 0, .int .i64 0, .int .i64 0, .int .i64 0, .int .i64 0, .string ⟨#[]⟩, .int .i64 0, .int .i64 0, .int .i64 0, .int .i64 0, .int .i64 0, .int .i64 0, .int .i64 0, .string ⟨#[]⟩, .int .i64 0, .int .i64 0, .int .i64 0] 56 (0, 0)) ∧ W.heap[w.heap.size + 1 + 1 + 1]? = some (.cells (stateV item pre).cells 56 (0, 0))) ∧ Below w.heap.size w W)
    (fun _ _ _ => False)
    (OwnFrom.and (OwnFrom.and (Own.from (boxed_own _ _ _) _) (OwnFrom.and (Own.from (cells_own _ _ (fun _ => _)) _) (Own.from (cells_own _ _ (fun pre => (stateV item pre).cells)) _))) (ownFrom_below (Nat.le_refl _) (by omega)))
    (fun _ _ _ _ _ hs _ _ => hs)
    ⟨⟨hb1, hb2, hb3⟩, hB0⟩
    (fun x a' W => ∃ Bx, w.heap.size + 1 + 1 + 1 < Bx ∧ W.heap[Bx]? = some (.cells x.cells 54 (0, 0)) ∧ a' = { tmps := #[.agg #[.slice av nv cv, .slice ao no co], .string item, .pointer (some ⟨w.heap.size, 0, none⟩), .pointer (some ⟨w.heap.size + 1, 0, none⟩), .pointer (some ⟨w.heap.size + 1 + 1, 0, none⟩), .pointer (some ⟨w.heap.size + 1 + 1 + 1, 0, none⟩), .pointer (some ⟨Bx, 0, none⟩), .agg #[.slice av nv cv, .slice ao no co], .func (.func 63) #[] #[.pointer (some ⟨w.heap.size + 1 + 1 + 1 + 1, 0, none⟩)], OpV.val x, undef, undef, undef, undef, undef, undef, undef, undef], defers := [] })
    (fun x a' s A B row hs hg hr => by
      obtain ⟨Bx, h1, h2, h3⟩ := hs
      exact ⟨Bx, h1, (cells_own (β := Unit) Bx _ (fun _ => _)).from _ () A B row h2 hg hr, h3⟩) ?assign ?body ?done ?stop
  case assign =>
    rintro lp pre x W K ⟨⟨h1, h2, h3⟩, h4⟩ hK
    unfold OpV.val
    gi_wp2
    exact hK _ _ ((KeepsOthers.alloc _ _).from _) ((Below.refl _ W).alloc h4.size _) ⟨⟨h1.alloc _, (Below.heap_alloc _ _ _ (Array.getElem?_eq_some_iff.1 h2).1).trans h2, (Below.heap_alloc _ _ _ (Array.getElem?_eq_some_iff.1 h3).1).trans h3⟩, h4.alloc h4.size _⟩ ⟨W.heap.size, (Array.getElem?_eq_some_iff.1 h3).1, World.alloc_heap_new W _, rfl⟩
  case body =>
    rintro lp pre x a' W hl ⟨r, hr⟩ ⟨⟨h1, h2, h3⟩, h4⟩ ⟨Bx, hBx, hX, rfl⟩ hlen
    have g1 := h1.cell
    have d4 := (op_at hX).2.2.2.2.1
    have H1 := Lib.hid h1
    have H2 := Lib.hid h2
    have H3 := Lib.hid h3
    have H4 := Lib.hid h4
    have HXx := Lib.hid hX
    have HS := Lib.hid (stateV_snoc item pre x)
    clear h1 h2 h3 h4 hX hr
    by_cases hd : x.item = item
    rotate_left
    · have hb : (x.item.toList == item.toList) = false := by rw [beq_eq_false_iff_ne]; exact fun h => hd (text_ext h)
      have HE : Hid (stateV item (pre ++ [x]) = stateV item pre) := by show _ = _; rw [HS.out, if_neg hd]
      clear hd HS
      gi_wp2
      exact ⟨KeepsFrom.refl _ _, Below.refl _ _, ⟨H1.out, H2.out, by rw [HE.out]; exact H3.out⟩, H4.out⟩
    have hb : (x.item.toList == item.toList) = true := by rw [hd]; exact beq_self_eq_true _
    have HE : Hid (stateV item (pre ++ [x]) = withV (stateV item pre) x) := by show _ = _; rw [HS.out, if_pos hd]
    clear hd HS
    generalize stateV item pre = s at H3 HE
    gi_wp2_with (first | (refine wpListIn_load_whole rfl 56 (.tmp 5) rfl (w.heap.size + 1 + 1 + 1) rfl 56 s.cells (0, 0) _ H3.out Try.underlying56 rfl s.infoOf ?_) | (refine wpListIn_load_whole rfl 54 (.tmp 6) rfl Bx rfl 54 x.cells (0, 0) _ HXx.out Try.underlying54 rfl (by exact x.infoOp) ?_))
    refine ⟨trivial, (CallsIn.inRound lp (callsIn_wide.2 (withW s x W))).mono ?_⟩
    rintro e w2 ⟨rfl, hb2⟩
    have hX3 := (hb2.block _ (Array.getElem?_eq_some_iff.1 H3.out).1).trans H3.out
    have hX2 := (hb2.block _ (Array.getElem?_eq_some_iff.1 H2.out).1).trans H2.out
    have hX1 := (hb2.block _ H1.out.lt).trans H1.out
    have HQ : Hid (KeepsFrom W0.heap.size W (w2.setRow (w.heap.size + 1 + 1 + 1) (withV s x).cells)) := (keeps_below hb2).trans (keeps_setRow (by omega))
    have HKp : Hid (Below w.heap.size W (w2.setRow (w.heap.size + 1 + 1 + 1) (withV s x).cells)) := setRow_below (hb2.mono H4.out.size) (by omega) hX3
    have HBe : Hid (Below w.heap.size w (w2.setRow (w.heap.size + 1 + 1 + 1) (withV s x).cells)) := setRow_below (H4.out.trans (hb2.mono H4.out.size)) (by omega) hX3
    have HN1 : Hid (Boxed (w2.setRow (w.heap.size + 1 + 1 + 1) (withV s x).cells) (w.heap.size + 1) 9 (.string item)) := (setRow_other _ _ _ _ (by omega)).trans hX1
    have HN2 := Lib.hid ((setRow_other w2 (w.heap.size + 1 + 1 + 1) (w.heap.size + 1 + 1) (withV s x).cells (by omega)).trans hX2)
    have HN3 := Lib.hid (setRow_heap w2 (w.heap.size + 1 + 1 + 1) s.cells (withV s x).cells 56 (0, 0) hX3)
    have HO3 := Lib.hid hX3
    clear hb2 hX1 hX2 hX3
    gi_wp2_with (refine wpListIn_store_whole rfl 56 (.tmp 5) (.tmp 16) rfl (w.heap.size + 1 + 1 + 1) (withV s x).cells rfl rfl 56 s.cells HO3.out (withV s x).infoOf (by rw [StV.size, StV.size]) (withV s x).one ?_)
    exact ⟨HQ.out, HKp.out, ⟨HN1.out, HN2.out, by rw [HE.out]; exact HN3.out⟩, HBe.out⟩
  case done =>
    rintro D ys W hD rfl ⟨⟨h1, h2, h3⟩, h4⟩ hK
    have H2 := Lib.hid h2
    have H3 := Lib.hid h3
    have H4 := Lib.hid h4
    have HKd := Lib.hid hK
    clear h1 h2 h3 h4 hK
    generalize hse : stateV item (counted xs l) = s at H3
    have HSe := Lib.hid hse
    clear hse
    gi_wp2_with (first | (refine wpListIn_load_whole rfl 56 (.tmp 5) rfl (w.heap.size + 1 + 1 + 1) rfl 56 s.cells (0, 0) _ H3.out Try.underlying56 rfl s.infoOf ?_) | (refine wpListIn_store_whole rfl 56 (.tmp 4) (.tmp 17) rfl (w.heap.size + 1 + 1) s.cells rfl rfl 56 _ H2.out s.infoOf (by rw [StV.size]; rfl) s.one ?_))
    have hK' := (setRow_other W (w.heap.size + 1 + 1) D s.cells (by omega)).trans HKd.out
    refine ⟨by simp, .inl ⟨_, _, rfl, run_takeDeferred hK', ?_⟩⟩
    have HXr : ((W.setRow (w.heap.size + 1 + 1) s.cells).putObj D (.deferred none)).heap[w.heap.size + 1 + 1]? = some (.cells s.cells 56 (0, 0)) := (World.putObj_heap_other (by omega)).trans (setRow_heap W (w.heap.size + 1 + 1) _ s.cells 56 (0, 0) H2.out)
    exact ⟨_, results_cell_row rfl _ _ _ _ _ _ _ rfl HXr Try.underlying56 rfl s.infoOf, by rw [HSe.out], (setRow_below H4.out (by omega) H2.out).trans (belowK_b (w := w) (Nat.le_refl _) _ D _ _ (by omega) hK' rfl rfl)⟩
  case stop =>
    rintro D c pre W _ _ h _
    exact h.elim

end Go.Proofs.Ytideaompdbdbhaa
