/- The walk of impl.lastLive: a loop over the iterator of live operations. -/
import Derived.Test.YtmceofdknphgkaaGa26
import Derived.Test.YtmceofdknphgkaaGrpLiveOpsW
import Derived.Lib.MinMax
namespace Go.Proofs.Ytmceofdknphgkaa
open Go.RowKit Go.Shelf
attribute [local go_sem] Oper.semAt_some

theorem cells_own {β : Type} (B : Nat) (t : TypeId) (f : β → Array Value) : Own (fun s W => W.heap[B]? = some (.cells (f s) t (0, 0))) := fun s X Y row hs hg hrow =>
  (hg.block B (Array.getElem?_eq_some_iff.1 hs).1 (fun e' => by obtain ⟨o, ho, hc⟩ := hrow B e'.symm; rw [hs] at ho; cases ho; cases hc)).trans hs
theorem live_stops (n : Nat) (hn : 1 ≤ n) (Bc n₀ : Nat) (av ao : Option Addr) (nv cv no co : Nat) (xs : List Int) (l : List OpV) (hv : nv ≤ 1048576) (hc : no ≤ co) (hc2 : Fits no co)
    (w : World) (hBc : w.heap[Bc]? = some (.cells #[.slice av nv cv, .slice ao no co] 27 (0, 0))) (hx : Ints w n₀ av nv xs) (h : Ops w n₀ ao no l) (hn₀ : n₀ ≤ w.heap.size) :
    SeqStopsK Fence.wide n Try.prog 175 #[.pointer (some ⟨Bc, 0, none⟩)] (fun x : OpV => #[OpV.val x]) (Below n₀) (fun ys => ys = counted xs l) (fun _ => True) l.length w := fun lp J Jx W hW hJ _ hY h0 =>
  liveOps1 n hn lp Bc n₀ av ao nv cv no co xs l hv hc hc2 J Jx (fun s A B hs hg => hJ s A B none hs hg (fun r e => by cases e)) hY W ((hW.block _ (Array.getElem?_eq_some_iff.1 hBc).1).trans hBc) (hx.below hW hn₀) (h.below hW hn₀) (Nat.le_trans hn₀ hW.size) h0

set_option maxRecDepth 100000 in
set_option maxHeartbeats 10000000 in
theorem lastLive (w : World) (B : Nat) (av ao : Option Addr) (nv cv no co : Nat) (xs : List Int) (l : List OpV) (dev : Int) (hx : Ints w B av nv xs) (h : Ops w B ao no l) (hB : B ≤ w.heap.size) (hv : nv ≤ 1048576) (hc : no ≤ co) (hc2 : Fits no co) :
    Calls Try.prog 115 #[.agg #[.slice av nv cv, .slice ao no co], .int .i64 dev] w fun e w' => e = .returned (.int .i64 (lastOf dev (counted xs l))) ∧ Below w.heap.size w w' := by
  have hn1048 : no ≤ 1048576 := hc2.1
  have HX := Lib.hid (hx.more hB)
  have HO := Lib.hid (h.more hB)
  clear hx h hB
  refine (callsIn_wide (n := 8)).1 ?_
  refine callsIn_of_wp_marks Try.func115 rfl trivial ?_ rfl
  simp only [Try.ntmps115, List.size_toArray, List.length_cons, List.length_nil, Nat.reduceAdd, Nat.reduceSub, Array.replicate_succ, Array.replicate_zero, List.push_toArray, List.append_toArray, List.nil_append, List.cons_append]
  gi_wp2_with fail
  refine ⟨trivial, (liveOps _ _ _).mono ?_⟩
  rintro e w' ⟨rfl, rfl⟩
  have hb1 := ((Boxed.new (w.alloc (.cells #[.slice av nv cv, .slice ao no co] 27)) 2 (.int .i64 dev)).alloc (.cells #[.int .i64 0] 2)).alloc (.cells #[.slice av nv cv, .slice ao no co] 27)
  have hb2 := (Boxed.new ((w.alloc (.cells #[.slice av nv cv, .slice ao no co] 27)).alloc (.cells #[.int .i64 dev] 2)) 2 (.int .i64 0)).alloc (.cells #[.slice av nv cv, .slice ao no co] 27)
  have hb3 := boxAt (Below.refl _ ((((w.alloc (.cells #[.slice av nv cv, .slice ao no co] 27)).alloc (.cells #[.int .i64 dev] 2)).alloc (.cells #[.int .i64 0] 2)).alloc (.cells #[.slice av nv cv, .slice ao no co] 27)))
  have hB0 : Below w.heap.size w ((((w.alloc (.cells #[.slice av nv cv, .slice ao no co] 27)).alloc (.cells #[.int .i64 dev] 2)).alloc (.cells #[.int .i64 0] 2)).alloc (.cells #[.slice av nv cv, .slice ao no co] 27)) := ((((Below.refl _ w).alloc (Nat.le_refl _) _).alloc (by simp) _).alloc (by simp; omega) _).alloc (by simp; omega) _
  have hsz : ((((w.alloc (.cells #[.slice av nv cv, .slice ao no co] 27)).alloc (.cells #[.int .i64 dev] 2)).alloc (.cells #[.int .i64 0] 2)).alloc (.cells #[.slice av nv cv, .slice ao no co] 27)).heap.size = w.heap.size + 1 + 1 + 1 + 1 := by simp
  simp only [World.size_alloc] at hb1 hb2 hb3
  gi_wp2
  generalize ((((w.alloc (.cells #[.slice av nv cv, .slice ao no co] 27)).alloc (.cells #[.int .i64 dev] 2)).alloc (.cells #[.int .i64 0] 2)).alloc (.cells #[.slice av nv cv, .slice ao no co] 27)) = W0 at hb1 hb2 hb3 hB0 hsz ⊢
  refine wpIn_rangeFunc_ownH rfl (by omega) (gf := 175) (lb := #[.pointer (some ⟨w.heap.size + 1 + 1 + 1, 0, none⟩)]) rfl trivial (enters_of Try.func175 (by kernel_rfl) rfl)
    (live_stops _ (by omega) (w.heap.size + 1 + 1 + 1) w.heap.size av ao nv cv no co xs l hv hc hc2 W0 hb3 (HX.out.below hB0 (Nat.le_refl _)) (HO.out.below hB0 (Nat.le_refl _)) (by omega))
    belowK_t (belowK_b (by omega)) (Below.refl _ _) (fun _ => rfl)
    (fun pre W => (Boxed W (w.heap.size + 1) 2 (.int .i64 dev) ∧ Boxed W (w.heap.size + 1 + 1) 2 (.int .i64 (lastOf dev pre))) ∧ Below w.heap.size w W)
    (fun _ _ _ => False)
    (OwnFrom.and (OwnFrom.and (Own.from (boxed_own _ _ _) _) (Own.from (boxed_own _ _ (fun pre => .int .i64 (lastOf dev pre))) _)) (ownFrom_below (Nat.le_refl _) (by omega)))
    (fun _ _ _ _ _ hs _ _ => hs)
    ⟨⟨hb1, hb2⟩, hB0⟩
    (fun x a' W => ∃ Bx, w.heap.size + 1 + 1 < Bx ∧ W.heap[Bx]? = some (.cells #[.int .i64 x.dev, .int .i64 x.seq, .int .i64 x.stamp, .int .i64 x.kind, .string x.item, .int .i64 x.qty, .int .i64 x.level, .int .i64 x.undos] 34 (0, 0)) ∧ a' = { tmps := #[.agg #[.slice av nv cv, .slice ao no co], .int .i64 dev, .pointer (some ⟨w.heap.size, 0, none⟩), .pointer (some ⟨w.heap.size + 1, 0, none⟩), .int .i64 0, .pointer (some ⟨w.heap.size + 1 + 1, 0, none⟩), .pointer (some ⟨Bx, 0, none⟩), .agg #[.slice av nv cv, .slice ao no co], .func (.func 175) #[] #[.pointer (some ⟨w.heap.size + 1 + 1 + 1, 0, none⟩)], OpV.val x, undef, undef, undef, undef, undef, undef, undef, undef, undef], defers := [] })
    (fun x a' s A B row hs hg hr => by
      obtain ⟨Bx, h1, h2, h3⟩ := hs
      exact ⟨Bx, h1, (cells_own (β := Unit) Bx _ (fun _ => _)).from _ () A B row h2 hg hr, h3⟩) ?assign ?body ?done ?stop
  case assign =>
    rintro lp pre x W K ⟨⟨h1, h2⟩, h3⟩ hK
    unfold OpV.val
    gi_wp2
    exact hK _ _ ((KeepsOthers.alloc _ _).from _) ((Below.refl _ W).alloc h3.size _) ⟨⟨h1.alloc _, h2.alloc _⟩, h3.alloc h3.size _⟩ ⟨W.heap.size, h2.lt, World.alloc_heap_new W _, rfl⟩
  case body =>
    rintro lp pre x a' W hl ⟨r, hr⟩ ⟨⟨h1, h2⟩, h3⟩ ⟨Bx, hBx, hX, rfl⟩ hlen
    have d0 := cell_of_row W Bx 0 _ _ _ hX
    have d1 := cell_of_row W Bx 1 _ _ _ hX
    simp only [List.getElem?_toArray, List.getElem?_cons_zero, List.getElem?_cons_succ] at d0 d1
    have g1 := h1.cell
    have g2 := h2.cell
    have g3 := h2.frozen
    have H1 := Lib.hid h1
    have H2 := Lib.hid h2
    have H3 := Lib.hid h3
    have HS := Lib.hid (lastOf_snoc dev pre x)
    clear h1 h2 h3 hX hr
    by_cases hd : x.dev = dev
    · have hb : (x.dev == dev) = true := by rw [hd]; exact beq_self_eq_true _
      have HE : Hid (lastOf dev (pre ++ [x]) = max (lastOf dev pre) x.seq) := by show _ = _; rw [HS.out, if_pos hd]
      clear hd HS
      gi_wp2
      exact ⟨(KeepsOthers.setCell _ _ _).from _, (Below.refl _ W).setCell (p := ⟨w.heap.size + 1 + 1, 0, none⟩) (by show _ ≤ w.heap.size + 1 + 1; omega) _, ⟨H1.out.other (by omega) _, by rw [HE.out]; exact H2.out.set _⟩, H3.out.setCell (p := ⟨w.heap.size + 1 + 1, 0, none⟩) (by show _ ≤ w.heap.size + 1 + 1; omega) _⟩
    · have hb : (x.dev == dev) = false := by rw [beq_eq_false_iff_ne]; exact hd
      have HE : Hid (lastOf dev (pre ++ [x]) = lastOf dev pre) := by show _ = _; rw [HS.out, if_neg hd]
      clear hd HS
      gi_wp2
      exact ⟨KeepsFrom.refl _ _, Below.refl _ _, ⟨H1.out, by rw [HE.out]; exact H2.out⟩, H3.out⟩
  case done =>
    rintro D ys W hD rfl ⟨⟨h1, h2⟩, h3⟩ hK
    have g2 := h2.cell
    gi_wp2
    refine ⟨by simp, .inl ⟨_, _, rfl, run_takeDeferred hK, ?_⟩⟩
    exact ⟨_, results_tmp rfl _ _ _, rfl, h3.trans (belowK_b (w := w) (Nat.le_refl _) W D _ _ (by omega) hK rfl rfl)⟩
  case stop =>
    rintro D c pre W _ _ h _
    exact h.elim
end Go.Proofs.Ytmceofdknphgkaa
