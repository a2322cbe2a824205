/- Walks and mathematics that several claims share, part 37. -/
import Derived.Test.YthkagbnpcjidfaaGreatDoorGu23
namespace Go.Proofs.YthkagbnpcjidfaaGreatDoor
set_option maxRecDepth 100000
open Go.RowKit Go.Shelf
attribute [local go_sem] Oper.semAt_some
def E8 (bJ : List aA) : ByteArray → Option Value := fun x => if bJ.any (fun o => decide (o.item = x)) = true then some (cA x bJ).val else none
theorem aEY {x : ByteArray} {bJ : List aA} (h : bJ.any (fun o => decide (o.item = x)) = false) : cA x bJ = cL.zero := by
 have : ∀ (l : List aA) (s : cL), l.any (fun o => decide (o.item = x)) = false → l.foldl (fun s o => if o.item = x then eW s o else s) s = s := by
  intro l
  induction l with
  | nil => intro s _; rfl
  | cons o l ih =>
   intro s hl
   rw [List.any_cons, Bool.or_eq_false_iff] at hl; rw [List.foldl_cons, if_neg (of_decide_eq_false hl.1)]; exact ih s hl.2
 exact this bJ cL.zero h
theorem aEs (bJ : List aA) (x : ByteArray) : (E8 bJ x).getD cL.zero.val = (cA x bJ).val := by
 unfold E8
 by_cases h : bJ.any (fun o => decide (o.item = x)) = true
 ·rw [if_pos h]; rfl
 ·rw [if_neg h, aEY (by simpa using h)]; rfl
theorem aJQ (bJ : List aA) (o : aA) : aE6 (E8 bJ) o.item (eW (cA o.item bJ) o).val = E8 (bJ ++ [o]) := by
 funext x
 unfold aE6 E8
 rw [List.any_append]
 by_cases h : x = o.item
 ·subst h
  rw [if_pos rfl, if_pos (by simp), uZ, if_pos rfl]
 ·have hd : [o].any (fun o => decide (o.item = x)) = false := by simp; exact fun e => h e.symm
  have h' : ¬ o.item = x := fun e => h e.symm
  rw [if_neg h, hd, Bool.or_false, uZ, if_neg h']
theorem aCp (bJ : List aA) (x : ByteArray) : (E8 bJ x).isSome = true ↔ ∃ o, o ∈ bJ ∧ o.item = x := by
 unfold E8
 by_cases h : bJ.any (fun o => decide (o.item = x)) = true
 ·rw [if_pos h]
  simp only [Option.isSome_some, true_iff]
  obtain ⟨o, ho, hx⟩ := List.any_eq_true.1 h; exact ⟨o, ho, of_decide_eq_true hx⟩
 ·rw [if_neg h]
  simp only [Option.isSome_none, Bool.false_eq_true, false_iff]
  rintro ⟨o, ho, hx⟩; exact h (List.any_eq_true.2 ⟨o, ho, decide_eq_true hx⟩)
theorem Tryz.stateZero (w : World) : (zeroValue 96).run Tryz.prog w = .ok cL.zero.val w := by kernel_rfl
theorem aHB {β : Type} {b B : Nat} (hb : b < B) (n : β → Nat) (f : β → ByteArray → Option Value) : OwnFrom B (fun s W => gL W b (n s) (f s)) := fun s X Y row hs hg jG =>
 hs.kept (hg.block b hs.lt (fun e' => by have := (jG b e'.symm).1; omega))
theorem Tryz.mkStates (w : World) : (Instr.makeMap 89 none).run Tryz.prog w = .ok (.map (some w.heap.size)) (w.alloc (.map #[] 0)) := by
 simp [Instr.makeMap]
theorem x7 {P : Program} {a : Act} {w : World} {o : Oper} {ty : TypeId} {x : Operand} (ho : o.op = .load ty x) (g : Nat) (hx : a.eval x = .pointer (some ⟨g, 0, none⟩)) (t : TypeId) (cs : Array Value) (fr : Nat × Nat) (d : TypeDesc) (hg : w.heap[g]? = some (.cells cs t fr))
  (hu : P.underlying ty = some d) (hd : (match d with | .struct _ | .array _ _ => true | _ => false) = true) (hi : (P.info? ty).map (·.size) = some cs.size) : (execOp a.eval o).run P w = .ok (.value (.agg cs)) w := by
 simp only [execOp, ho, hx, Instr.loadAt, Instr.sureAddr, Sem.run_bind, Sem.run_pure, Result.andThen_ok, run_loadVar_row w g t ty cs fr d hg hu hd hi]
theorem aB6 (n : Nat) (hn : 1 ≤ n) (Bc n₀ : Nat) (av ao : Option Addr) (nv cv no co : Nat) (xs : List Int) (l : List aA) (hv : nv ≤ 1048576) (hc : no ≤ co) (dP : Fits no co)
  (w : World) (hBc : w.heap[Bc]? = some (.cells #[.slice av nv cv, .slice ao no co] 27 (0, 0))) (hx : Ints w n₀ av nv xs) (h : bP w n₀ ao no l) (Z5 : n₀ ≤ w.heap.size) :
  SeqStopsK Fence.wide n Tryz.prog 122 #[.pointer (some ⟨Bc, 0, none⟩)] (fun x : {o : aA // o ∈ l} => #[aA.val x.1]) (Below n₀) (fun ys => ys.map (·.1) = counted xs l) (fun _ => True) l.length w := fun lp J Jx W hW hJ _ hY h0 => by
 have := aCG n hn lp Bc n₀ av ao nv cv no co xs l hv hc dP (fun s W => ∃ s' : List {o : aA // o ∈ l}, s'.map (·.1) = s ∧ J s' W) (fun s W => ∃ s' : List {o : aA // o ∈ l}, s'.map (·.1) = s ∧ Jx s' W)
  (fun s A B ⟨s', e, hs⟩ hg => ⟨s', e, hJ s' A B none hs hg (fun r e => by cases e)⟩)
  (fun bJ x W ⟨s', e, hs⟩ hl hm => (hY s' ⟨x, hm⟩ W hs (by rw [← List.length_map (f := fun q : {o : aA // o ∈ l} => q.1), e]; exact hl)).mono (fun e' W' h' => h'.imp (fun ⟨a, b, c⟩ => ⟨a, ⟨s' ++ [⟨x, hm⟩], by rw [List.map_append, e]; rfl, b⟩, c⟩) (fun ⟨a, b⟩ => ⟨a, ⟨s' ++ [⟨x, hm⟩], by rw [List.map_append, e]; rfl, b⟩⟩)))
  W ((hW.block _ (aPp hBc).1).trans hBc) (hx.below hW Z5) (h.below hW Z5) (Nat.le_trans Z5 hW.size) ⟨[], rfl, h0⟩
 refine this.mono fun e W' h' => ?_
 obtain ⟨hv, h' | h'⟩ := h'
 ·obtain ⟨ys, hys, s', e', hs⟩ := h'
  exact ⟨hv, .inl ⟨s', by show s'.map (·.1) = _; rw [e', hys]; rfl, hs⟩⟩
 ·obtain ⟨bJ, _, s', e', hs⟩ := h'
  exact ⟨hv, .inr ⟨s', trivial, hs⟩⟩
set_option maxHeartbeats 20000000 in
theorem aGa (w : World) (B : Nat) (av ao : Option Addr) (nv cv no co : Nat) (xs : List Int) (l : List aA) (hx : Ints w B av nv xs) (h : bP w B ao no l) (hB : B ≤ w.heap.size) (hv : nv ≤ 1048576) (hc : no ≤ co) (dP : Fits no co) (hm : ∀ o ∈ l, o.item.size ≤ 1048576) : Calls Tryz.prog 61 #[.agg #[.slice av nv cv, .slice ao no co]] w fun e w' => e = .returned (.map (some (w.heap.size + 1))) ∧ gL w' (w.heap.size + 1) l.length (E8 (counted xs l)) ∧ Below w.heap.size w w' := by
 have yO : no ≤ 1048576 := dP.1
 have HL := aPo h.1
 have HX := aPo (hx.more hB)
 have HO := aPo (h.more hB)
 have HM := aPo hm
 clear hx h hB hm
 have hmk := Tryz.mkStates
 refine (callsIn_wide (n := 8)).1 ?_
 refine callsIn_of_wp_marks Tryz.func61 rfl trivial ?_ rfl
 simp only [Tryz.ntmps61, List.size_toArray, List.length_cons, List.length_nil, Nat.reduceAdd, Nat.reduceSub, Array.replicate_succ, Array.replicate_zero, List.push_toArray, List.append_toArray, List.nil_append, List.cons_append]
 gi_wp2_with fail
 refine ⟨trivial, (aBm _ _ _).mono ?_⟩
 rintro e w' ⟨rfl, rfl⟩
 have aG : gL ((((w.alloc (.cells #[.slice av nv cv, .slice ao no co] 27)).alloc (.map #[] 0)).alloc (.cells #[.map (some (w.heap.size + 1))] 89)).alloc (.cells #[.slice av nv cv, .slice ao no co] 27)) (w.heap.size + 1) 0 (E8 []) := by
  have e : (w.alloc (.cells #[.slice av nv cv, .slice ao no co] 27)).heap.size = w.heap.size + 1 := by simp
  have h0 := gL.made (w.alloc (.cells #[.slice av nv cv, .slice ao no co] 27)); rw [e] at h0; exact (h0.kept (Below.heap_alloc _ _ _ (by simp))).kept (Below.heap_alloc _ _ _ (by simp))
 have aM := (Boxed.new ((w.alloc (.cells #[.slice av nv cv, .slice ao no co] 27)).alloc (.map #[] 0)) 89 (.map (some (w.heap.size + 1)))).alloc (.cells #[.slice av nv cv, .slice ao no co] 27)
 have aV := bX (Below.refl _ ((((w.alloc (.cells #[.slice av nv cv, .slice ao no co] 27)).alloc (.map #[] 0)).alloc (.cells #[.map (some (w.heap.size + 1))] 89)).alloc (.cells #[.slice av nv cv, .slice ao no co] 27)))
 have B2 : Below w.heap.size w ((((w.alloc (.cells #[.slice av nv cv, .slice ao no co] 27)).alloc (.map #[] 0)).alloc (.cells #[.map (some (w.heap.size + 1))] 89)).alloc (.cells #[.slice av nv cv, .slice ao no co] 27)) := ((((Below.refl _ w).alloc aPq _).alloc (by simp) _).alloc (by simp; omega) _).alloc (by simp; omega) _
 have dC : ((((w.alloc (.cells #[.slice av nv cv, .slice ao no co] 27)).alloc (.map #[] 0)).alloc (.cells #[.map (some (w.heap.size + 1))] 89)).alloc (.cells #[.slice av nv cv, .slice ao no co] 27)).heap.size = w.heap.size + 1 + 1 + 1 + 1 := by simp
 simp only [World.size_alloc] at aM aV
 gi_wp2
 generalize ((((w.alloc (.cells #[.slice av nv cv, .slice ao no co] 27)).alloc (.map #[] 0)).alloc (.cells #[.map (some (w.heap.size + 1))] 89)).alloc (.cells #[.slice av nv cv, .slice ao no co] 27)) = W0 at aG aM aV B2 dC ⊢
 refine wpIn_rangeFunc_ownH rfl (by omega) (gf := 122) (lb := #[.pointer (some ⟨w.heap.size + 1 + 1 + 1, 0, none⟩)]) rfl trivial (enters_of Tryz.func122 (by kernel_rfl) rfl)
  (aB6 _ (by omega) (w.heap.size + 1 + 1 + 1) w.heap.size av ao nv cv no co xs l hv hc dP W0 aV (HX.out.below B2 aPq) (HO.out.below B2 aPq) (by omega))
  belowK_t (belowK_b (by omega)) (Below.refl _ _) (fun _ => rfl)
  (fun (bJ : List {o : aA // o ∈ l}) W => (gL W (w.heap.size + 1) bJ.length (E8 (bJ.map (·.1))) ∧ Boxed W (w.heap.size + 1 + 1) 89 (.map (some (w.heap.size + 1))) ∧ W.heap[w.heap.size + 1 + 1 + 1]? = some (.cells #[.slice av nv cv, .slice ao no co] 27 (0, 0))) ∧ Below w.heap.size w W)
  (fun _ _ _ => False)
  (OwnFrom.and (OwnFrom.and (aHB (by omega) (fun bJ : List {o : aA // o ∈ l} => bJ.length) (fun bJ => E8 (bJ.map (·.1)))) (OwnFrom.and (Own.from (boxed_own _ _ _) _) (Own.from (rZ _ _ (fun _ => _)) _))) (ownFrom_below aPq (by omega)))
  (fun _ _ _ _ _ hs _ _ => hs)
  ⟨⟨aG, aM, aV⟩, B2⟩
  (fun x a' W => ∃ Bx, w.heap.size + 1 + 1 + 1 < Bx ∧ W.heap[Bx]? = some (.cells x.1.cells 50 (0, 0)) ∧ a' = { tmps := #[.agg #[.slice av nv cv, .slice ao no co], .pointer (some ⟨w.heap.size, 0, none⟩), .map none, .pointer (some ⟨w.heap.size + 1 + 1, 0, none⟩), .pointer (some ⟨Bx, 0, none⟩), .map (some (w.heap.size + 1)), .agg #[.slice av nv cv, .slice ao no co], .func (.func 122) #[] #[.pointer (some ⟨w.heap.size + 1 + 1 + 1, 0, none⟩)], aA.val x.1, undef, undef, undef, undef, undef, undef, undef, undef, undef, undef], defers := [] })
  (fun x a' s A B row hs hg hr => by
   obtain ⟨Bx, h1, h2, h3⟩ := hs; exact ⟨Bx, h1, (rZ (β := Unit) Bx _ (fun _ => _)).from _ () A B row h2 hg hr, h3⟩) ?assign ?body ?done ?stop
 case assign =>
  rintro lp bJ ⟨x, yJ⟩ W K ⟨⟨h1, h2, h3⟩, h4⟩ hK; unfold aA.val; have hW : w.heap.size + 1 + 1 + 1 < W.heap.size := (aPp h3).1
  gi_wp2
  exact hK _ _ ((KeepsOthers.alloc _ _).from _) ((Below.refl _ W).alloc h4.size _) ⟨⟨h1.kept (Below.heap_alloc _ _ _ h1.lt), h2.alloc _, (Below.heap_alloc _ _ _ hW).trans h3⟩, h4.alloc h4.size _⟩ ⟨W.heap.size, hW, World.alloc_heap_new W _, rfl⟩
 case body =>
  rintro lp bJ ⟨x, yJ⟩ a' W hl ⟨r, hr⟩ ⟨⟨h1, h2, h3⟩, h4⟩ ⟨Bx, hBx, hX, rfl⟩ mQ; have hfx : wL x.item := by have := HM.out x yJ; show _ ≤ maxLen; unfold maxLen; omega
  have aMU : bJ.length < maxLen := by have := HL.out; unfold maxLen; omega
  have H1 := aPo h1; have H2 := aPo h2; have H3 := aPo h3; have H4 := aPo h4; have HXx := aPo hX; have rO := aPo (aJQ (bJ.map (·.1)) x); have aMz := aPo (aEs (bJ.map (·.1)) x.item); have wQ : W.drew.cell? ⟨w.heap.size + 1 + 1, 0, none⟩ = some (.map (some (w.heap.size + 1))) ∧ W.drew.heap[Bx]? = some (.cells x.cells 50 (0, 0)) := ⟨h2.cell, hX⟩; have i6 : Hid (gL W.drew (w.heap.size + 1) bJ.length (E8 (bJ.map (·.1)))) := h1.kept rfl; clear h1 h2 h3 h4 hX hr; generalize cA x.item (bJ.map (·.1)) = s at rO aMz
  gi_wp2_with fail
  refine aAf (by kernel_rfl) (by kernel_rfl) (S := fun w' => w'.cell? ⟨w.heap.size + 1 + 1, 0, none⟩ = some (.map (some (w.heap.size + 1))) ∧ w'.heap[Bx]? = some (.cells x.cells 50 (0, 0))) wQ (fun aL => ?_)
  refine wpAnyH_take (i := 0) (oi := ⟨some 9, .load 89 (.tmp 3), 89, "l05_views.go:86", #[], none⟩) (v := ?_) rfl (by kernel_rfl) (by kernel_rfl) (by kernel_rfl) (fun _ _ _ h => h) (Or.inl ⟨by rfl, ?_⟩) (by assumption) ?_
  rotate_left
  ·intro wq hSw
   have yN := hSw.1; have hq2 := (fS hSw.2).2.2.2.2.1
   first | (go_simp; done) | (go_simp; with_reducible rfl)
  (try simp only [Act.put, u1, u2, u3])
  refine wpAnyH_take (i := 1) (oi := ⟨some 10, .fieldAddr 50 (.tmp 4) 4, 0, "l05_views.go:86", #[], none⟩) (v := ?_) rfl (by kernel_rfl) (by kernel_rfl) (by kernel_rfl) (fun _ _ _ h => h) (Or.inl ⟨by rfl, ?_⟩) (by assumption) ?_
  rotate_left
  ·intro wq hSw
   have yN := hSw.1; have hq2 := (fS hSw.2).2.2.2.2.1
   first | (go_simp; done) | (go_simp; with_reducible rfl)
  (try simp only [Act.put, u1, u2, u3])
  refine wpAnyH_take (i := 2) (oi := ⟨some 11, .load 9 (.tmp 10), 9, "l05_views.go:86", #[⟨1, .data⟩], none⟩) (v := ?_) rfl (by kernel_rfl) (by kernel_rfl) (by kernel_rfl) (fun _ _ _ h => h) (Or.inl ⟨by rfl, ?_⟩) (by assumption) ?_
  rotate_left
  ·intro wq hSw
   have yN := hSw.1; have hq2 := (fS hSw.2).2.2.2.2.1
   first | (go_simp; done) | (go_simp; with_reducible rfl)
  (try simp only [Act.put, u1, u2, u3])
  refine wpAnyH_take (i := 3) (oi := ⟨some 12, .load 89 (.tmp 3), 89, "l05_views.go:86", #[], none⟩) (v := ?_) rfl (by kernel_rfl) (by kernel_rfl) (by kernel_rfl) (fun _ _ _ h => h) (Or.inl ⟨by rfl, ?_⟩) (by assumption) ?_
  rotate_left
  ·intro wq hSw
   have yN := hSw.1; have hq2 := (fS hSw.2).2.2.2.2.1
   first | (go_simp; done) | (go_simp; with_reducible rfl)
  (try simp only [Act.put, u1, u2, u3])
  refine wpAnyH_take (i := 4) (oi := ⟨some 13, .fieldAddr 50 (.tmp 4) 4, 0, "l05_views.go:86", #[], none⟩) (v := ?_) rfl (by kernel_rfl) (by kernel_rfl) (by kernel_rfl) (fun _ _ _ h => h) (Or.inl ⟨by rfl, ?_⟩) (by assumption) ?_
  rotate_left
  ·intro wq hSw
   have yN := hSw.1; have hq2 := (fS hSw.2).2.2.2.2.1
   first | (go_simp; done) | (go_simp; with_reducible rfl)
  (try simp only [Act.put, u1, u2, u3])
  refine wpAnyH_take (i := 5) (oi := ⟨some 14, .load 9 (.tmp 13), 9, "l05_views.go:86", #[⟨4, .data⟩], none⟩) (v := ?_) rfl (by kernel_rfl) (by kernel_rfl) (by kernel_rfl) (fun _ _ _ h => h) (Or.inl ⟨by rfl, ?_⟩) (by assumption) ?_
  rotate_left
  ·intro wq hSw
   have yN := hSw.1; have hq2 := (fS hSw.2).2.2.2.2.1
   first | (go_simp; done) | (go_simp; with_reducible rfl)
  (try simp only [Act.put, u1, u2, u3])
  refine wpAnyH_take (i := 7) (oi := ⟨some 16, .load 50 (.tmp 4), 50, "l05_views.go:86", #[], none⟩) (v := x.val) rfl (by kernel_rfl) (by kernel_rfl) (by kernel_rfl) (fun _ _ _ h => h) (Or.inl ⟨by rfl, fun wq hSw => x7 rfl Bx rfl 50 x.cells (0, 0) _ hSw.2 Tryz.underlying50 rfl (by exact x.infoOp)⟩) (by assumption) ?_
  (try simp only [Act.put, u1, u2, u3])
  have hlk := (i6.out.look Tryz.underlying89 (Tryz.stateZero _) hfx).2; rw [aMz.out] at hlk; refine rk 6 rfl (fun K hK => ?_)
  go_simp
  refine hK.out _ _ wQ (fun aG6 => ?_)
  clear hK K hlk
  (try simp only [Act.put, u1, u2, u3])
  refine rk 8 rfl (fun K hK => ?_)
  go_simp
  go_at_call 93
  refine (aJh s x W.drew).mono ?_
  rintro e w2 ⟨rfl, aM⟩; have eD : w2.cell? ⟨w.heap.size + 1 + 1, 0, none⟩ = some (.map (some (w.heap.size + 1))) ∧ w2.heap[Bx]? = some (.cells x.cells 50 (0, 0)) := ⟨(aM.cell (block_lt_of_cell wQ.1)).trans wQ.1, (aM.block _ (aPp wQ.2).1).trans wQ.2⟩; refine hK.out _ _ eD (fun bS => ?_)
  clear hK K
  (try simp only [Act.put, u1, u2, u3])
  obtain ⟨w3, hrun, hT3, hg3⟩ := (i6.out.below aM).put Tryz.underlying89 aMU (eW s x).val hfx; rw [rO.out] at hT3; have aBq : Below W.heap.size W w2 := Below.mk aM.os aM.tape aM.output aM.size aM.block; have hk3 : ∀ j, j < W.heap.size → j ≠ w.heap.size + 1 → w3.heap[j]? = W.heap[j]? := fun j hj bO => (hg3.block j (Nat.lt_of_lt_of_le hj aBq.size) (by intro h; injection h with h; exact bO h)).trans (aBq.block j hj)
  have gI : w3.cell? ⟨w.heap.size + 1 + 1, 0, none⟩ = some (.map (some (w.heap.size + 1))) ∧ w3.heap[Bx]? = some (.cells x.cells 50 (0, 0)) := ⟨(World.cell?_of_block (a := ⟨w.heap.size + 1 + 1, 0, none⟩) (hk3 (w.heap.size + 1 + 1) H2.out.lt (by omega))).trans H2.out.cell, (hk3 _ (aPp HXx.out).1 (by omega)).trans HXx.out⟩
  have HQ : Hid (KeepsFrom W0.heap.size W w3) := (Z1 aBq).trans (KeepsFrom.of_grownBy hg3 (fun j e => by injection e with e; omega))
  have HKp : Hid (Below w.heap.size W w3) := (aBq.mono H4.out.size).grown hg3 (Nat.le_trans H4.out.size aBq.size) (fun j e => by injection e with e; omega)
  have lN : Hid (Boxed w3 (w.heap.size + 1 + 1) 89 (.map (some (w.heap.size + 1)))) := (hk3 _ H2.out.lt (by omega)).trans H2.out
  have nU := aPo ((hk3 _ (aPp H3.out).1 (by omega)).trans H3.out)
  have HTn : Hid (gL w3 (w.heap.size + 1) (bJ ++ [(⟨x, yJ⟩ : {o : aA // o ∈ l})]).length (E8 ((bJ ++ [(⟨x, yJ⟩ : {o : aA // o ∈ l})]).map (·.1)))) := by
   show gL _ _ _ _
   rw [List.length_append, List.map_append]; exact hT3
  clear hT3 hg3 hk3 aBq aM i6; refine rk 9 rfl (fun K hK => ?_)
  go_simp
  refine hK.out _ _ gI (fun dQ => ?_)
  clear hK K; refine wpAnyH_done (by kernel_rfl) ?_ _
  exact ⟨HQ.out, HKp.out, ⟨HTn.out, lN.out, nU.out⟩, H4.out.trans HKp.out⟩
 case done =>
  rintro D ys W hD hys ⟨⟨h1, h2, h3⟩, h4⟩ hK; have H1 := aPo h1; have H4 := aPo h4; have HKd := aPo hK; have HY : Hid (ys.length ≤ l.length) := by
   have e : ys.length = (counted xs l).length := by rw [← hys, List.length_map]
   show _ ≤ _
   rw [e]; unfold counted
   split
   ·exact aAm l _
   ·simp
  have HYs := aPo hys; have g2 := h2.cell; clear h1 h2 h3 h4 hK hys
  gi_wp2
  refine ⟨by simp, .inl ⟨_, _, rfl, run_takeDeferred HKd.out, ?_⟩⟩
  exact ⟨_, by simp [results, Tryz.results61, go_sem], rfl, ((H1.out.mono HY.out).kept (World.putObj_heap_other (by have := H1.out.lt; omega))).congr (fun s _ => by rw [HYs.out]), H4.out.trans (belowK_b (w := w) aPq _ D _ _ (by omega) HKd.out rfl rfl)⟩
 case stop =>
  rintro D c bJ W _ _ h _; exact h.elim
end Go.Proofs.YthkagbnpcjidfaaGreatDoor
