/- Walks and mathematics that several claims share, part 36. -/
import Derived.Test.YtjokbaaommicmaaGreatDoorGb33
import Derived.Test.YtjokbaaommicmaaGreatDoorGb30
import Derived.Test.YtjokbaaommicmaaGreatDoorGb7
import Derived.Test.YtjokbaaommicmaaGreatDoorGb9
import Derived.Test.YtjokbaaommicmaaGreatDoorGbA
namespace Go.Proofs.YtjokbaaommicmaaGreatDoor
set_option maxRecDepth 100000
open Go.RowKit Go.Shelf
attribute [local go_sem] Oper.semAt_some

/-- What the map has under an item. -/
def stF (pre : List OpV) : ByteArray → Option Value := fun x => if pre.any (fun o => decide (o.item = x)) = true then some (stateV x pre).val else none
theorem state_none {x : ByteArray} {pre : List OpV} (h : pre.any (fun o => decide (o.item = x)) = false) : stateV x pre = StV.zero := by
 have : ∀ (l : List OpV) (s : StV), l.any (fun o => decide (o.item = x)) = false → l.foldl (fun s o => if o.item = x then withV s o else s) s = s := by
  intro l
  induction l with
  | nil => intro s _; rfl
  | cons o l ih =>
   intro s hl
   rw [List.any_cons, Bool.or_eq_false_iff] at hl
   rw [List.foldl_cons, if_neg (of_decide_eq_false hl.1)]
   exact ih s hl.2
 exact this pre StV.zero h
theorem stF_get (pre : List OpV) (x : ByteArray) : (stF pre x).getD StV.zero.val = (stateV x pre).val := by
 unfold stF
 by_cases h : pre.any (fun o => decide (o.item = x)) = true
 ·rw [if_pos h]; rfl
 ·rw [if_neg h, state_none (by simpa using h)]; rfl
theorem stF_put (pre : List OpV) (o : OpV) : putT (stF pre) o.item (withV (stateV o.item pre) o).val = stF (pre ++ [o]) := by
 funext x
 unfold putT stF
 rw [List.any_append]
 by_cases h : x = o.item
 ·subst h
  rw [if_pos rfl, if_pos (by simp), stateV_snoc, if_pos rfl]
 ·have hd : [o].any (fun o => decide (o.item = x)) = false := by simp; exact fun e => h e.symm
  have h' : ¬ o.item = x := fun e => h e.symm
  rw [if_neg h, hd, Bool.or_false, stateV_snoc, if_neg h']
theorem stF_some (pre : List OpV) (x : ByteArray) : (stF pre x).isSome = true ↔ ∃ o, o ∈ pre ∧ o.item = x := by
 unfold stF
 by_cases h : pre.any (fun o => decide (o.item = x)) = true
 ·rw [if_pos h]
  simp only [Option.isSome_some, true_iff]
  obtain ⟨o, ho, hx⟩ := List.any_eq_true.1 h
  exact ⟨o, ho, of_decide_eq_true hx⟩
 ·rw [if_neg h]
  simp only [Option.isSome_none, Bool.false_eq_true, false_iff]
  rintro ⟨o, ho, hx⟩
  exact h (List.any_eq_true.2 ⟨o, ho, decide_eq_true hx⟩)
theorem Tryz.stateZero (w : World) : (zeroValue 199).run Tryz.prog w = .ok StV.zero.val w := by kernel_rfl
theorem tmap_own {β : Type} {b B : Nat} (hb : b < B) (n : β → Nat) (f : β → ByteArray → Option Value) : OwnFrom B (fun s W => TMap W b (n s) (f s)) := fun s X Y row hs hg hrow =>
 hs.kept (hg.block b hs.lt (fun e' => by have := (hrow b e'.symm).1; omega))
theorem Tryz.mkStates (w : World) : (Instr.makeMap 192 none).run Tryz.prog w = .ok (.map (some w.heap.size)) (w.alloc (.map #[] 0)) := by
 simp [Instr.makeMap]
theorem yields_load_row {P : Program} {a : Act} {w : World} {o : Oper} {ty : TypeId} {x : Operand} (ho : o.op = .load ty x) (g : Nat) (hx : a.eval x = .pointer (some ⟨g, 0, none⟩)) (t : TypeId) (cs : Array Value) (fr : Nat × Nat) (d : TypeDesc) (hg : w.heap[g]? = some (.cells cs t fr))
  (hu : P.underlying ty = some d) (hd : (match d with | .struct _ | .array _ _ => true | _ => false) = true) (hi : (P.info? ty).map (·.size) = some cs.size) : (execOp a.eval o).run P w = .ok (.value (.agg cs)) w := by
 simp only [execOp, ho, hx, Instr.loadAt, Instr.sureAddr, Sem.run_bind, Sem.run_pure, Result.andThen_ok, run_loadVar_row w g t ty cs fr d hg hu hd hi]
/-- The iterator, with what is known of each operation that it yields. -/
theorem live_stops_in (n : Nat) (hn : 1 ≤ n) (Bc n₀ : Nat) (av ao : Option Addr) (nv cv no co : Nat) (xs : List Int) (l : List OpV) (hv : nv ≤ 1048576) (hc : no ≤ co) (hc2 : Fits no co)
  (w : World) (hBc : w.heap[Bc]? = some (.cells #[.slice av nv cv, .slice ao no co] 32 (0, 0))) (hx : Ints w n₀ av nv xs) (h : Ops w n₀ ao no l) (hn₀ : n₀ ≤ w.heap.size) :
  SeqStopsK Fence.wide n Tryz.prog 143 #[.pointer (some ⟨Bc, 0, none⟩)] (fun x : {o : OpV // o ∈ l} => #[OpV.val x.1]) (Below n₀) (fun ys => ys.map (·.1) = counted xs l) (fun _ => True) l.length w := fun lp J Jx W hW hJ _ hY h0 => by
 have := liveOps1 n hn lp Bc n₀ av ao nv cv no co xs l hv hc hc2 (fun s W => ∃ s' : List {o : OpV // o ∈ l}, s'.map (·.1) = s ∧ J s' W) (fun s W => ∃ s' : List {o : OpV // o ∈ l}, s'.map (·.1) = s ∧ Jx s' W)
  (fun s A B ⟨s', e, hs⟩ hg => ⟨s', e, hJ s' A B none hs hg (fun r e => by cases e)⟩)
  (fun pre x W ⟨s', e, hs⟩ hl hm => (hY s' ⟨x, hm⟩ W hs (by rw [← List.length_map (f := fun q : {o : OpV // o ∈ l} => q.1), e]; exact hl)).mono (fun e' W' h' => h'.imp (fun ⟨a, b, c⟩ => ⟨a, ⟨s' ++ [⟨x, hm⟩], by rw [List.map_append, e]; rfl, b⟩, c⟩) (fun ⟨a, b⟩ => ⟨a, ⟨s' ++ [⟨x, hm⟩], by rw [List.map_append, e]; rfl, b⟩⟩)))
  W ((hW.block _ (Array.getElem?_eq_some_iff.1 hBc).1).trans hBc) (hx.below hW hn₀) (h.below hW hn₀) (Nat.le_trans hn₀ hW.size) ⟨[], rfl, h0⟩
 refine this.mono fun e W' h' => ?_
 obtain ⟨hv, h' | h'⟩ := h'
 ·obtain ⟨ys, hys, s', e', hs⟩ := h'
  exact ⟨hv, .inl ⟨s', by show s'.map (·.1) = _; rw [e', hys]; rfl, hs⟩⟩
 ·obtain ⟨pre, _, s', e', hs⟩ := h'
  exact ⟨hv, .inr ⟨s', trivial, hs⟩⟩

set_option maxHeartbeats 20000000 in
theorem statesOfW (w : World) (B : Nat) (av ao : Option Addr) (nv cv no co : Nat) (xs : List Int) (l : List OpV) (hx : Ints w B av nv xs) (h : Ops w B ao no l) (hB : B ≤ w.heap.size) (hv : nv ≤ 1048576) (hc : no ≤ co) (hc2 : Fits no co) (hm : ∀ o ∈ l, o.item.size ≤ 1048576) : Calls Tryz.prog 128 #[.agg #[.slice av nv cv, .slice ao no co]] w fun e w' => e = .returned (.map (some (w.heap.size + 1))) ∧ TMap w' (w.heap.size + 1) l.length (stF (counted xs l)) ∧ Below w.heap.size w w' := by
 have hn1048 : no ≤ 1048576 := hc2.1
 have HL := Lib.hid h.1
 have HX := Lib.hid (hx.more hB)
 have HO := Lib.hid (h.more hB)
 have HM := Lib.hid hm
 clear hx h hB hm
 have hmk := Tryz.mkStates
 refine (callsIn_wide (n := 8)).1 ?_
 refine callsIn_of_wp_marks Tryz.func128 rfl trivial ?_ rfl
 simp only [Tryz.ntmps128, List.size_toArray, List.length_cons, List.length_nil, Nat.reduceAdd, Nat.reduceSub, Array.replicate_succ, Array.replicate_zero, List.push_toArray, List.append_toArray, List.nil_append, List.cons_append]
 gi_wp2_with fail
 refine ⟨trivial, (liveOps _ _ _).mono ?_⟩
 rintro e w' ⟨rfl, rfl⟩
 have hb1 : TMap ((((w.alloc (.cells #[.slice av nv cv, .slice ao no co] 32)).alloc (.map #[] 0)).alloc (.cells #[.map (some (w.heap.size + 1))] 192)).alloc (.cells #[.slice av nv cv, .slice ao no co] 32)) (w.heap.size + 1) 0 (stF []) := by
  have e : (w.alloc (.cells #[.slice av nv cv, .slice ao no co] 32)).heap.size = w.heap.size + 1 := by simp
  have h0 := TMap.made (w.alloc (.cells #[.slice av nv cv, .slice ao no co] 32))
  rw [e] at h0
  exact (h0.kept (Below.heap_alloc _ _ _ (by simp))).kept (Below.heap_alloc _ _ _ (by simp))
 have hb2 := (Boxed.new ((w.alloc (.cells #[.slice av nv cv, .slice ao no co] 32)).alloc (.map #[] 0)) 192 (.map (some (w.heap.size + 1)))).alloc (.cells #[.slice av nv cv, .slice ao no co] 32)
 have hb3 := boxAt (Below.refl _ ((((w.alloc (.cells #[.slice av nv cv, .slice ao no co] 32)).alloc (.map #[] 0)).alloc (.cells #[.map (some (w.heap.size + 1))] 192)).alloc (.cells #[.slice av nv cv, .slice ao no co] 32)))
 have hB0 : Below w.heap.size w ((((w.alloc (.cells #[.slice av nv cv, .slice ao no co] 32)).alloc (.map #[] 0)).alloc (.cells #[.map (some (w.heap.size + 1))] 192)).alloc (.cells #[.slice av nv cv, .slice ao no co] 32)) := ((((Below.refl _ w).alloc (Nat.le_refl _) _).alloc (by simp) _).alloc (by simp; omega) _).alloc (by simp; omega) _
 have hsz : ((((w.alloc (.cells #[.slice av nv cv, .slice ao no co] 32)).alloc (.map #[] 0)).alloc (.cells #[.map (some (w.heap.size + 1))] 192)).alloc (.cells #[.slice av nv cv, .slice ao no co] 32)).heap.size = w.heap.size + 1 + 1 + 1 + 1 := by simp
 simp only [World.size_alloc] at hb2 hb3
 gi_wp2
 generalize ((((w.alloc (.cells #[.slice av nv cv, .slice ao no co] 32)).alloc (.map #[] 0)).alloc (.cells #[.map (some (w.heap.size + 1))] 192)).alloc (.cells #[.slice av nv cv, .slice ao no co] 32)) = W0 at hb1 hb2 hb3 hB0 hsz ⊢
 refine wpIn_rangeFunc_ownH rfl (by omega) (gf := 143) (lb := #[.pointer (some ⟨w.heap.size + 1 + 1 + 1, 0, none⟩)]) rfl trivial (enters_of Tryz.func143 (by kernel_rfl) rfl)
  (live_stops_in _ (by omega) (w.heap.size + 1 + 1 + 1) w.heap.size av ao nv cv no co xs l hv hc hc2 W0 hb3 (HX.out.below hB0 (Nat.le_refl _)) (HO.out.below hB0 (Nat.le_refl _)) (by omega))
  belowK_t (belowK_b (by omega)) (Below.refl _ _) (fun _ => rfl)
  (fun (pre : List {o : OpV // o ∈ l}) W => (TMap W (w.heap.size + 1) pre.length (stF (pre.map (·.1))) ∧ Boxed W (w.heap.size + 1 + 1) 192 (.map (some (w.heap.size + 1))) ∧ W.heap[w.heap.size + 1 + 1 + 1]? = some (.cells #[.slice av nv cv, .slice ao no co] 32 (0, 0))) ∧ Below w.heap.size w W)
  (fun _ _ _ => False)
  (OwnFrom.and (OwnFrom.and (tmap_own (by omega) (fun pre : List {o : OpV // o ∈ l} => pre.length) (fun pre => stF (pre.map (·.1)))) (OwnFrom.and (Own.from (boxed_own _ _ _) _) (Own.from (cells_own _ _ (fun _ => _)) _))) (ownFrom_below (Nat.le_refl _) (by omega)))
  (fun _ _ _ _ _ hs _ _ => hs)
  ⟨⟨hb1, hb2, hb3⟩, hB0⟩
  (fun x a' W => ∃ Bx, w.heap.size + 1 + 1 + 1 < Bx ∧ W.heap[Bx]? = some (.cells x.1.cells 93 (0, 0)) ∧ a' = { tmps := #[.agg #[.slice av nv cv, .slice ao no co], .pointer (some ⟨w.heap.size, 0, none⟩), .map none, .pointer (some ⟨w.heap.size + 1 + 1, 0, none⟩), .pointer (some ⟨Bx, 0, none⟩), .map (some (w.heap.size + 1)), .agg #[.slice av nv cv, .slice ao no co], .func (.func 143) #[] #[.pointer (some ⟨w.heap.size + 1 + 1 + 1, 0, none⟩)], OpV.val x.1, undef, undef, undef, undef, undef, undef, undef, undef, undef, undef], defers := [] })
  (fun x a' s A B row hs hg hr => by
   obtain ⟨Bx, h1, h2, h3⟩ := hs
   exact ⟨Bx, h1, (cells_own (β := Unit) Bx _ (fun _ => _)).from _ () A B row h2 hg hr, h3⟩) ?assign ?body ?done ?stop
 case assign =>
  rintro lp pre ⟨x, hxl⟩ W K ⟨⟨h1, h2, h3⟩, h4⟩ hK
  unfold OpV.val
  have hW : w.heap.size + 1 + 1 + 1 < W.heap.size := (Array.getElem?_eq_some_iff.1 h3).1
  gi_wp2
  exact hK _ _ ((KeepsOthers.alloc _ _).from _) ((Below.refl _ W).alloc h4.size _) ⟨⟨h1.kept (Below.heap_alloc _ _ _ h1.lt), h2.alloc _, (Below.heap_alloc _ _ _ hW).trans h3⟩, h4.alloc h4.size _⟩ ⟨W.heap.size, hW, World.alloc_heap_new W _, rfl⟩
 case body =>
  rintro lp pre ⟨x, hxl⟩ a' W hl ⟨r, hr⟩ ⟨⟨h1, h2, h3⟩, h4⟩ ⟨Bx, hBx, hX, rfl⟩ hlen
  have hfx : FitT x.item := by have := HM.out x hxl; show _ ≤ maxLen; unfold maxLen; omega
  have hlen2 : pre.length < maxLen := by have := HL.out; unfold maxLen; omega
  have H1 := Lib.hid h1
  have H2 := Lib.hid h2
  have H3 := Lib.hid h3
  have H4 := Lib.hid h4
  have HXx := Lib.hid hX
  have HPut := Lib.hid (stF_put (pre.map (·.1)) x)
  have HGet := Lib.hid (stF_get (pre.map (·.1)) x.item)
  have hS0 : W.drew.cell? ⟨w.heap.size + 1 + 1, 0, none⟩ = some (.map (some (w.heap.size + 1))) ∧ W.drew.heap[Bx]? = some (.cells x.cells 93 (0, 0)) := ⟨h2.cell, hX⟩
  have HT0 : Hid (TMap W.drew (w.heap.size + 1) pre.length (stF (pre.map (·.1)))) := h1.kept rfl
  clear h1 h2 h3 h4 hX hr
  generalize stateV x.item (pre.map (·.1)) = s at HPut HGet
  gi_wp2_with fail
  refine region_in_round (by kernel_rfl) (by kernel_rfl) (S := fun w' => w'.cell? ⟨w.heap.size + 1 + 1, 0, none⟩ = some (.map (some (w.heap.size + 1))) ∧ w'.heap[Bx]? = some (.cells x.cells 93 (0, 0))) hS0 (fun hHeld => ?_)
  refine wpAnyH_take (i := 0) (oi := ⟨some 9, .load 192 (.tmp 3), 192, "l05_views.go:86", #[], none⟩) (v := ?_) rfl (by kernel_rfl) (by kernel_rfl) (by kernel_rfl) (fun _ _ _ h => h) (Or.inl ⟨by rfl, ?_⟩) (by assumption) ?_
  rotate_left
  ·intro wq hSw
   have hq1 := hSw.1
   have hq2 := (op_at hSw.2).2.2.2.2.1
   first | (go_simp; done) | (go_simp; with_reducible rfl)
  (try simp only [Act.put, u1, u2, u3])
  refine wpAnyH_take (i := 1) (oi := ⟨some 10, .fieldAddr 93 (.tmp 4) 4, 0, "l05_views.go:86", #[], none⟩) (v := ?_) rfl (by kernel_rfl) (by kernel_rfl) (by kernel_rfl) (fun _ _ _ h => h) (Or.inl ⟨by rfl, ?_⟩) (by assumption) ?_
  rotate_left
  ·intro wq hSw
   have hq1 := hSw.1
   have hq2 := (op_at hSw.2).2.2.2.2.1
   first | (go_simp; done) | (go_simp; with_reducible rfl)
  (try simp only [Act.put, u1, u2, u3])
  refine wpAnyH_take (i := 2) (oi := ⟨some 11, .load 9 (.tmp 10), 9, "l05_views.go:86", #[⟨1, .data⟩], none⟩) (v := ?_) rfl (by kernel_rfl) (by kernel_rfl) (by kernel_rfl) (fun _ _ _ h => h) (Or.inl ⟨by rfl, ?_⟩) (by assumption) ?_
  rotate_left
  ·intro wq hSw
   have hq1 := hSw.1
   have hq2 := (op_at hSw.2).2.2.2.2.1
   first | (go_simp; done) | (go_simp; with_reducible rfl)
  (try simp only [Act.put, u1, u2, u3])
  refine wpAnyH_take (i := 3) (oi := ⟨some 12, .load 192 (.tmp 3), 192, "l05_views.go:86", #[], none⟩) (v := ?_) rfl (by kernel_rfl) (by kernel_rfl) (by kernel_rfl) (fun _ _ _ h => h) (Or.inl ⟨by rfl, ?_⟩) (by assumption) ?_
  rotate_left
  ·intro wq hSw
   have hq1 := hSw.1
   have hq2 := (op_at hSw.2).2.2.2.2.1
   first | (go_simp; done) | (go_simp; with_reducible rfl)
  (try simp only [Act.put, u1, u2, u3])
  refine wpAnyH_take (i := 4) (oi := ⟨some 13, .fieldAddr 93 (.tmp 4) 4, 0, "l05_views.go:86", #[], none⟩) (v := ?_) rfl (by kernel_rfl) (by kernel_rfl) (by kernel_rfl) (fun _ _ _ h => h) (Or.inl ⟨by rfl, ?_⟩) (by assumption) ?_
  rotate_left
  ·intro wq hSw
   have hq1 := hSw.1
   have hq2 := (op_at hSw.2).2.2.2.2.1
   first | (go_simp; done) | (go_simp; with_reducible rfl)
  (try simp only [Act.put, u1, u2, u3])
  refine wpAnyH_take (i := 5) (oi := ⟨some 14, .load 9 (.tmp 13), 9, "l05_views.go:86", #[⟨4, .data⟩], none⟩) (v := ?_) rfl (by kernel_rfl) (by kernel_rfl) (by kernel_rfl) (fun _ _ _ h => h) (Or.inl ⟨by rfl, ?_⟩) (by assumption) ?_
  rotate_left
  ·intro wq hSw
   have hq1 := hSw.1
   have hq2 := (op_at hSw.2).2.2.2.2.1
   first | (go_simp; done) | (go_simp; with_reducible rfl)
  (try simp only [Act.put, u1, u2, u3])
  refine wpAnyH_take (i := 7) (oi := ⟨some 16, .load 93 (.tmp 4), 93, "l05_views.go:86", #[], none⟩) (v := x.val) rfl (by kernel_rfl) (by kernel_rfl) (by kernel_rfl) (fun _ _ _ h => h) (Or.inl ⟨by rfl, fun wq hSw => yields_load_row rfl Bx rfl 93 x.cells (0, 0) _ hSw.2 Tryz.underlying93 rfl (by exact x.infoOp)⟩) (by assumption) ?_
  (try simp only [Act.put, u1, u2, u3])
  have hlk := (HT0.out.look Tryz.underlying192 (Tryz.stateZero _) hfx).2
  rw [HGet.out] at hlk
  refine rk 6 rfl (fun K hK => ?_)
  go_simp
  refine hK.out _ _ hS0 (fun hHeld1 => ?_)
  clear hK K hlk
  (try simp only [Act.put, u1, u2, u3])
  refine rk 8 rfl (fun K hK => ?_)
  go_simp
  go_at_call 139
  refine (withW s x W.drew).mono ?_
  rintro e w2 ⟨rfl, hb2⟩
  have hS2 : w2.cell? ⟨w.heap.size + 1 + 1, 0, none⟩ = some (.map (some (w.heap.size + 1))) ∧ w2.heap[Bx]? = some (.cells x.cells 93 (0, 0)) := ⟨(hb2.cell (block_lt_of_cell hS0.1)).trans hS0.1, (hb2.block _ (Array.getElem?_eq_some_iff.1 hS0.2).1).trans hS0.2⟩
  refine hK.out _ _ hS2 (fun hHeld2 => ?_)
  clear hK K
  (try simp only [Act.put, u1, u2, u3])
  obtain ⟨w3, hrun, hT3, hg3⟩ := (HT0.out.below hb2).put Tryz.underlying192 hlen2 (withV s x).val hfx
  rw [HPut.out] at hT3
  have hb2W : Below W.heap.size W w2 := Below.mk hb2.os hb2.tape hb2.output hb2.size hb2.block
  have hk3 : ∀ j, j < W.heap.size → j ≠ w.heap.size + 1 → w3.heap[j]? = W.heap[j]? := fun j hj hne => (hg3.block j (Nat.lt_of_lt_of_le hj hb2W.size) (by intro h; injection h with h; exact hne h)).trans (hb2W.block j hj)
  have hS3 : w3.cell? ⟨w.heap.size + 1 + 1, 0, none⟩ = some (.map (some (w.heap.size + 1))) ∧ w3.heap[Bx]? = some (.cells x.cells 93 (0, 0)) := ⟨(World.cell?_of_block (a := ⟨w.heap.size + 1 + 1, 0, none⟩) (hk3 (w.heap.size + 1 + 1) H2.out.lt (by omega))).trans H2.out.cell, (hk3 _ (Array.getElem?_eq_some_iff.1 HXx.out).1 (by omega)).trans HXx.out⟩
  have HQ : Hid (KeepsFrom W0.heap.size W w3) := (keeps_below hb2W).trans (KeepsFrom.of_grownBy hg3 (fun j e => by injection e with e; omega))
  have HKp : Hid (Below w.heap.size W w3) := (hb2W.mono H4.out.size).grown hg3 (Nat.le_trans H4.out.size hb2W.size) (fun j e => by injection e with e; omega)
  have HN2 : Hid (Boxed w3 (w.heap.size + 1 + 1) 192 (.map (some (w.heap.size + 1)))) := (hk3 _ H2.out.lt (by omega)).trans H2.out
  have HN3 := Lib.hid ((hk3 _ (Array.getElem?_eq_some_iff.1 H3.out).1 (by omega)).trans H3.out)
  have HTn : Hid (TMap w3 (w.heap.size + 1) (pre ++ [(⟨x, hxl⟩ : {o : OpV // o ∈ l})]).length (stF ((pre ++ [(⟨x, hxl⟩ : {o : OpV // o ∈ l})]).map (·.1)))) := by
   show TMap _ _ _ _
   rw [List.length_append, List.map_append]
   exact hT3
  clear hT3 hg3 hk3 hb2W hb2 HT0
  refine rk 9 rfl (fun K hK => ?_)
  go_simp
  refine hK.out _ _ hS3 (fun hHeld3 => ?_)
  clear hK K
  refine wpAnyH_done (by kernel_rfl) ?_ _
  exact ⟨HQ.out, HKp.out, ⟨HTn.out, HN2.out, HN3.out⟩, H4.out.trans HKp.out⟩
 case done =>
  rintro D ys W hD hys ⟨⟨h1, h2, h3⟩, h4⟩ hK
  have H1 := Lib.hid h1
  have H4 := Lib.hid h4
  have HKd := Lib.hid hK
  have HY : Hid (ys.length ≤ l.length) := by
   have e : ys.length = (counted xs l).length := by rw [← hys, List.length_map]
   show _ ≤ _
   rw [e]
   unfold counted
   split
   ·exact liveTo_len l _
   ·simp
  have HYs := Lib.hid hys
  have g2 := h2.cell
  clear h1 h2 h3 h4 hK hys
  gi_wp2
  refine ⟨by simp, .inl ⟨_, _, rfl, run_takeDeferred HKd.out, ?_⟩⟩
  exact ⟨_, by simp [results, Tryz.results128, go_sem], rfl, ((H1.out.mono HY.out).kept (World.putObj_heap_other (by have := H1.out.lt; omega))).congr (fun s _ => by rw [HYs.out]), H4.out.trans (belowK_b (w := w) (Nat.le_refl _) _ D _ _ (by omega) HKd.out rfl rfl)⟩
 case stop =>
  rintro D c pre W _ _ h _
  exact h.elim

end Go.Proofs.YtjokbaaommicmaaGreatDoor
