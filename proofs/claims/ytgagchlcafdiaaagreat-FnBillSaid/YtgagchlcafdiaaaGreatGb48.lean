/- Walks and mathematics that several claims share, part 48. -/
import Derived.Test.YtgagchlcafdiaaaGreatGb46
import Derived.Test.YtgagchlcafdiaaaGreatGb15
import Derived.Test.YtgagchlcafdiaaaGreatGb16
import Derived.Test.YtgagchlcafdiaaaGreatGb0
import Derived.Test.YtgagchlcafdiaaaGreatGb47
import Derived.Deep.Cut
import Derived.Test.YtgagchlcafdiaaaGreatGbA
namespace Go.Proofs.YtgagchlcafdiaaaGreat
set_option maxRecDepth 100000
open Go.RowKit Go.Shelf
attribute [local go_sem] Oper.semAt_some
set_option linter.unusedVariables false
set_option linter.unusedSimpArgs false

/-- The three results' boxes, and the two variables' boxes, behind so many rows. -/
structure BillI (w : World) (X : Nat) (ps : List PrV) (os : List OfV) (l : List LnV) (pre : List LnV) (W : World) : Prop where
 rows : ∃ v, W.heap[X]? = some (.cells #[v] 29 (0, 0)) ∧ W.ownsRow (X + 1 + 1 + 1 + 1 + 1) 42 3 v pre.length (rwCells (pre.map (rowV ps os)))
 sum : W.heap[X + 1]? = some (.cells #[.int .i64 (sumR (pre.map (rowV ps os)))] 2 (0, 0))
 r0 : W.heap[w.heap.size]? = some (.cells #[.slice none 0 0] 29 (0, 0))
 r1 : W.heap[w.heap.size + 1]? = some (.cells #[.int .i64 0] 2 (0, 0))
 r2 : W.heap[w.heap.size + 1 + 1]? = some (.cells #[.bool false] 4 (0, 0))
 has : ∀ x, x ∈ pre → hasP ps x = true
 oks : ∀ x, x ∈ pre → x.ok = true
 bel : Below w.heap.size w W
 big : X + 1 + 1 + 1 + 1 + 1 ≤ W.heap.size
/-- What is left when a line has no price. -/
structure BillX (w : World) (ps : List PrV) (pre : List LnV) (W : World) : Prop where
 r0 : W.heap[w.heap.size]? = some (.cells #[.slice none 0 0] 29 (0, 0))
 r1 : W.heap[w.heap.size + 1]? = some (.cells #[.int .i64 0] 2 (0, 0))
 r2 : W.heap[w.heap.size + 1 + 1]? = some (.cells #[.bool false] 4 (0, 0))
 no : ∃ x, x ∈ pre ∧ hasP ps x = false
 bel : Below w.heap.size w W
theorem cell_kept {W W' : World} {row : Option Nat} {B j : Nat} {cs : Array Value} {T : TypeId} (h : W.heap[j]? = some (.cells cs T (0, 0))) (hg : W.grownBy W' row) (hr : ∀ r, row = some r → B ≤ r ∧ ∃ o : Obj, W.heap[r]? = some o ∧ o.isCells = false) : W'.heap[j]? = some (.cells cs T (0, 0)) :=
 (hg.block j (Array.getElem?_eq_some_iff.1 h).1 (fun e => by obtain ⟨_, o, ho, hc⟩ := hr j e.symm; rw [h] at ho; cases ho; cases hc)).trans h
theorem row_cells {W W' : World} {row : Option Nat} {B base n : Nat} {T : TypeId} {sz : Nat} {v : Value} {xs : List Value} (h : W.ownsRow base T sz v n xs) (hg : W.grownBy W' row) (hr : ∀ r, row = some r → B ≤ r ∧ ∃ o : Obj, W.heap[r]? = some o ∧ o.isCells = false) : W'.ownsRow base T sz v n xs := by
 refine h.kept (row := row) hg ?_
 rcases hv : v.ownBlock with _ | g
 ·exact .inl rfl
 ·refine .inr fun e => ?_
  obtain ⟨_, o, ho, hc⟩ := hr g e.symm
  rcases h.2 with ⟨e1, _⟩ | ⟨g', cap, cur, e1, _, h2, _⟩
  ·rw [e1] at hv; cases hv
  ·rw [e1] at hv
   have : g' = g := by injection hv
   subst this
   rw [h2] at ho
   cases ho
   cases hc
theorem BillI.own {w : World} {X : Nat} {ps : List PrV} {os : List OfV} {l : List LnV} {B : Nat} (hB : w.heap.size ≤ B) : OwnFrom B (BillI w X ps os l) := fun pre W W' row h hg hr => by
 obtain ⟨v, h1, h2⟩ := h.rows
 exact ⟨⟨v, cell_kept h1 hg hr, row_cells h2 hg hr⟩, cell_kept h.sum hg hr, cell_kept h.r0 hg hr, cell_kept h.r1 hg hr, cell_kept h.r2 hg hr, h.has, h.oks, h.bel.grown hg h.bel.size (fun k hk => by have := (hr k hk).1; omega), Nat.le_trans h.big hg.size⟩
theorem BillX.own {w : World} {ps : List PrV} {B : Nat} (hB : w.heap.size ≤ B) : OwnFrom B (BillX w ps) := fun pre W W' row h hg hr =>
 ⟨cell_kept h.r0 hg hr, cell_kept h.r1 hg hr, cell_kept h.r2 hg hr, h.no, h.bel.grown hg h.bel.size (fun k hk => by have := (hr k hk).1; omega)⟩
theorem rowR_put {w : World} {base b i n : Nat} {v u : Value} {xs : List Value} (h : w.ownsRow base 42 3 v n xs) (hb : b < base) : (w.setCell ⟨b, i, none⟩ u).ownsRow base 42 3 v n xs := by
 refine h.kept (row := some b) ⟨rfl, rfl, rfl, by simp [World.setCell], fun j _ hne => heap_setCell_other _ _ _ _ (fun e => hne (by rw [e]))⟩ ?_
 rcases hg : v.ownBlock with _ | g
 ·exact .inl rfl
 ·refine .inr fun e => ?_
  injection e with e
  have := (h.lt g hg).1
  omega
theorem row_isCells {w : World} {base n : Nat} {v : Value} {xs : List Value} (h : w.ownsRow base 42 3 v n xs) : ∀ (j : Nat) (o : Obj), v.ownBlock = some j → w.heap[j]? = some o → o.isCells = true := fun j o hj ho => by
 rcases h.2 with ⟨e1, _⟩ | ⟨g', cap, cur, e1, _, h2, _⟩
 ·rw [e1] at hj; cases hj
 ·rw [e1] at hj
  have : g' = j := by injection hj
  subst this
  rw [h2] at ho
  cases ho
  rfl
theorem kb_put {n₀ X : Nat} {w0 : World} (h0 : n₀ ≤ w0.heap.size) (hx : X + 1 + 1 + 1 + 1 + 1 ≤ w0.heap.size) (W : World) (l : Nat) (o o' : Obj) (hl : w0.heap.size ≤ l) (h : W.heap[l]? = some o) (h1 : o.isCells = false) (h2 : o.isWalk = false) : KB n₀ (X + 1 + 1 + 1) (X + 1 + 1 + 1 + 1) W (W.putObj l o') :=
 ⟨belowK_b (w := w0) h0 W l o o' hl h h1 h2, World.putObj_heap_other (by omega), World.putObj_heap_other (by omega)⟩
theorem wpListInApp {l n : Nat} {P : Program} {w : World} {ops : Array Oper} {rest : List Oper} {o : Oper} {a : Act} {Q : Exit → Act → World → Prop} (hgd : o.guard = none) (x y : Operand) (ts : Array TypeId) (hop : o.op = Op.call { callee := Callee.builtin Builtin.append, args := #[x, y], argTypes := ts }) (v1 v2 : Value) {v' : Value} {w' : World} (h1 : a.eval x = v1) (h2 : a.eval y = v2)
  (hrun : (Builtin.append_ ts o.type #[v1, v2]).run P w = .ok v' w') (h : wpListIn (Fence.wide.inRound l) n P ops Q rest (a.put o.dst v') w') : wpListIn (Fence.wide.inRound l) n P ops Q (o :: rest) a w := by
 show if Region.wanted o (yielded ops a.tmps) = true then o.wpIn _ n P a w (wpListIn _ n P ops Q rest) Q else _
 rw [if_pos (by simp [Region.wanted, hgd])]
 refine ⟨fun _ _ => trivial, ?_⟩
 rw [Oper.semAt_plain _ _ _ (by rw [hop]; intro c h; cases h)]
 simp [execOp, hop, resolve, invoke, builtin, h1, h2, hrun, Result.andThen, Oper.uponIn]
 exact h
theorem br_stops (n : Nat) (hn : 1 ≤ n) (bl bp bo n₀ : Nat) (la pa oa : Option Addr) (ln lc pn pc on oc : Nat) (l : List LnV) (ps : List PrV) (os : List OfV) (hvl : LnsB l = true) (hvp : PrsB ps = true) (hvo : OfsB os = true) (hm : ∀ i, i < ln → (atLn l i).item.size ≤ 1048576) (hln : ln ≤ 1048576) (hpn : pn ≤ 1048576) (hon : on ≤ 1048576)
  (w : World) (h1 : w.heap[bl]? = some (.cells #[.slice la ln lc] 24 (0, 0))) (h2 : w.heap[bp]? = some (.cells #[.slice pa pn pc] 25 (0, 0))) (h3 : w.heap[bo]? = some (.cells #[.slice oa on oc] 26 (0, 0))) (hl : Lns w n₀ la ln l) (hp : Prs w n₀ pa pn ps) (ho : Ofs w n₀ oa on os) (hn₀ : n₀ ≤ w.heap.size) :
  SeqStopsK Fence.wide n Tryz.prog 47 #[.pointer (some ⟨bl, 0, none⟩), .pointer (some ⟨bp, 0, none⟩), .pointer (some ⟨bo, 0, none⟩)] (fun x : {x : LnV // x.ok = true} => #[.agg #[.string x.1.item, .int .i64 x.1.qty, .int .i64 (centsOf ps x.1.item * qtyPaid os x.1)], .bool (hasP ps x.1)]) (KB n₀ bp bo) (fun ys => ys.map Subtype.val = openL l) (fun ys => ∃ k, ys.map Subtype.val = openL (l.take k)) l.length w := fun lp J Jx W hW hJ hJx hY h0 => by
 have g1 := (hW.block _ (Array.getElem?_eq_some_iff.1 h1).1).trans h1
 have g2 := (hW.block _ (Array.getElem?_eq_some_iff.1 h2).1).trans h2
 have g3 := (hW.block _ (Array.getElem?_eq_some_iff.1 h3).1).trans h3
 refine (billRows1 n hn lp bl bp bo n₀ la pa oa ln lc pn pc on oc l ps os hvl hvp hvo hm hln hpn hon (fun s W => ∃ ys : List {x : LnV // x.ok = true}, ys.map Subtype.val = s ∧ J ys W) (fun s W => ∃ ys : List {x : LnV // x.ok = true}, ys.map Subtype.val = s ∧ Jx ys W) (fun s A B h hg => by
  obtain ⟨ys, e, h⟩ := h
  exact ⟨ys, e, hJ ys A B none h hg (fun r e => by cases e)⟩) (fun pre x W1 h hl hx => by
  obtain ⟨ys, e, h⟩ := h
  obtain ⟨fn, t, asg, b, k1, k2⟩ := hY ys ⟨x, hx⟩ W1 h (by rw [← e, List.length_map] at hl; exact hl)
  refine ⟨fn, t, asg, b, k1, k2.mono ?_⟩
  rintro e1 W2 (⟨q1, q2, q3⟩ | ⟨q1, q2⟩)
  ·exact .inl ⟨q1, ⟨ys ++ [⟨x, hx⟩], by rw [List.map_append, e]; rfl, q2⟩, q3⟩
  ·exact .inr ⟨q1, ⟨ys ++ [⟨x, hx⟩], by rw [List.map_append, e]; rfl, q2⟩⟩) W g1 g2 g3 (hl.below hW hn₀) (hp.below hW hn₀) (ho.below hW hn₀) (Nat.le_trans hn₀ hW.size) ⟨[], rfl, h0⟩).mono ?_
 rintro e W' ⟨hv, (⟨ys, e1, zs, e2, hj⟩ | ⟨pre, ⟨k, e1⟩, zs, e2, hj⟩)⟩
 ·exact ⟨hv, .inl ⟨zs, e2.trans e1, hj⟩⟩
 ·exact ⟨hv, .inr ⟨zs, ⟨k, e2.trans e1⟩, hj⟩⟩
theorem bill_len (l : List LnV) (ps : List PrV) (os : List OfV) : billRs l ps os true = (openL l).map (rowV ps os) := if_pos rfl
theorem bill_sum (l : List LnV) (ps : List PrV) (os : List OfV) : billSum l ps os true = sumR ((openL l).map (rowV ps os)) := if_pos rfl
/-- What a bill's call answers. -/
def BillPost (R : Bool) (rs : List RwV) (s : Int) (w : World) (e : Ending) (w' : World) : Prop := ∃ ra rc, e = .returned (.tuple #[.slice ra rs.length rc, .int .i64 s, .bool R]) ∧ OwnRws w' w.heap.size w'.heap.size ra rs.length rs ∧ Below w.heap.size w w'
theorem bill_1 {l : List LnV} {ps : List PrV} {os : List OfV} (h : LnsB l = false) : billB l ps os = false := by unfold billB; rw [h]; rfl
theorem bill_2 {l : List LnV} {ps : List PrV} {os : List OfV} (h : PrsB ps = false) : billB l ps os = false := by unfold billB; rw [h]; simp
theorem bill_3 {l : List LnV} {ps : List PrV} {os : List OfV} (h : OfsB os = false) : billB l ps os = false := by unfold billB; rw [h]; simp
theorem bill_4 {l : List LnV} {ps : List PrV} {os : List OfV} (h : LnsB l = true) (h2 : PrsB ps = true) (h3 : OfsB os = true) : billB l ps os = (openL l).all (hasP ps) := by unfold billB; rw [h, h2, h3]; rfl
set_option maxHeartbeats 40000000 in
theorem implBill (w : World) (B : Nat) (la pa oa : Option Addr) (ln lc pn pc on oc : Nat) (l : List LnV) (ps : List PrV) (os : List OfV) (hl : Lns w B la ln l) (hp : Prs w B pa pn ps) (ho : Ofs w B oa on os) (hB : B ≤ w.heap.size) (hln : ln ≤ 1048576) (hpn : pn ≤ 1048576) (hon : on ≤ 1048576) (hm : ∀ i, i < ln → (atLn l i).item.size ≤ 1048576) :
  Calls Tryz.prog 7 #[.slice la ln lc, .slice pa pn pc, .slice oa on oc] w (BillPost (billB l ps os) (billRs l ps os (billB l ps os)) (billSum l ps os (billB l ps os)) w) := by
 have HLn := Lib.hid (hl.more hB)
 have HPr := Lib.hid (hp.more hB)
 have HOf := Lib.hid (ho.more hB)
 have HM := Lib.hid hm
 obtain ⟨R, hR⟩ : ∃ R, billB l ps os = R := ⟨_, rfl⟩
 have HR := Lib.hid hR
 rw [hR]
 clear hl hp ho hB hm hR
 refine (callsIn_wide (n := 8)).1 ?_
 refine callsIn_of_wp_marks Tryz.func7 rfl trivial ?_ rfl
 simp only [Tryz.ntmps7, List.size_toArray, List.length_cons, List.length_nil, Nat.reduceAdd, Nat.reduceSub, Array.replicate_succ, Array.replicate_zero, List.push_toArray, List.append_toArray, List.nil_append, List.cons_append]
 gi_wp2_with fail

 have hB0 : Below w.heap.size w (((w.alloc (.cells #[.slice none 0 0] 29)).alloc (.cells #[.int .i64 0] 2)).alloc (.cells #[.bool false] 4)) := (((Below.refl _ w).alloc (Nat.le_refl _) _).alloc (by simp) _).alloc (by simp; omega) _
 have hr0 : (((w.alloc (.cells #[.slice none 0 0] 29)).alloc (.cells #[.int .i64 0] 2)).alloc (.cells #[.bool false] 4)).heap[w.heap.size]? = some (.cells #[.slice none 0 0] 29 (0, 0)) := by
  show (((w.heap.push _).push _).push _)[_]? = _
  rw [Array.getElem?_push, if_neg (by simp; omega), Array.getElem?_push, if_neg (by simp), Array.getElem?_push, if_pos rfl]
 have hr1 : (((w.alloc (.cells #[.slice none 0 0] 29)).alloc (.cells #[.int .i64 0] 2)).alloc (.cells #[.bool false] 4)).heap[w.heap.size + 1]? = some (.cells #[.int .i64 0] 2 (0, 0)) := by
  show (((w.heap.push _).push _).push _)[_]? = _
  rw [Array.getElem?_push, if_neg (by simp), Array.getElem?_push, if_pos (by simp)]
 have hr2 : (((w.alloc (.cells #[.slice none 0 0] 29)).alloc (.cells #[.int .i64 0] 2)).alloc (.cells #[.bool false] 4)).heap[w.heap.size + 1 + 1]? = some (.cells #[.bool false] 4 (0, 0)) := by
  show (((w.heap.push _).push _).push _)[_]? = _
  rw [Array.getElem?_push, if_pos (by simp)]
 have hsz : (((w.alloc (.cells #[.slice none 0 0] 29)).alloc (.cells #[.int .i64 0] 2)).alloc (.cells #[.bool false] 4)).heap.size = w.heap.size + 1 + 1 + 1 := by simp
 generalize ((w.alloc (.cells #[.slice none 0 0] 29)).alloc (.cells #[.int .i64 0] 2)).alloc (.cells #[.bool false] 4) = w1 at hB0 hr0 hr1 hr2 hsz ⊢
 have HB1 := Lib.hid hB0
 have HA1 := Lib.hid hr0
 have HC1 := Lib.hid hr1
 have HD1 := Lib.hid hr2
 clear hB0 hr0 hr1 hr2
 refine ⟨trivial, (callsIn_wide.2 (implLinesOk w1 w.heap.size la ln lc l (HLn.out.below HB1.out (Nat.le_refl _)) (by omega) hln)).mono ?_⟩
 rintro e w2 ⟨rfl, hb⟩
 have hs2 := hb.size
 have HB2 := Lib.hid (HB1.out.trans (hb.mono (by omega)))
 have HA2 := Lib.hid ((hb.block _ (Array.getElem?_eq_some_iff.1 HA1.out).1).trans HA1.out)
 have HC2 := Lib.hid ((hb.block _ (Array.getElem?_eq_some_iff.1 HC1.out).1).trans HC1.out)
 have HD2 := Lib.hid ((hb.block _ (Array.getElem?_eq_some_iff.1 HD1.out).1).trans HD1.out)
 clear hb HB1 HA1 HC1 HD1
 obtain ⟨b1, hb1⟩ : ∃ b, LnsB l = b := ⟨_, rfl⟩
 have HVL := Lib.hid hb1
 rw [hb1]
 clear hb1
 cases b1
 ·skip
  obtain rfl : R = false := by rw [← HR.out]; exact bill_1 HVL.out
  have c0 : w2.cell? ⟨w.heap.size, 0, none⟩ = some (.slice none 0 0) := (cell_of_row _ _ _ _ _ _ HA2.out).trans rfl
  have f0 : w2.frozen? ⟨w.heap.size, 0, none⟩ = false := frozen_of_row _ _ _ _ _ HA2.out
  have c1 : w2.cell? ⟨w.heap.size + 1, 0, none⟩ = some (.int .i64 0) := (cell_of_row _ _ _ _ _ _ HC2.out).trans rfl
  have f1 : w2.frozen? ⟨w.heap.size + 1, 0, none⟩ = false := frozen_of_row _ _ _ _ _ HC2.out
  have c2 : w2.cell? ⟨w.heap.size + 1 + 1, 0, none⟩ = some (.bool false) := (cell_of_row _ _ _ _ _ _ HD2.out).trans rfl
  have f2 : w2.frozen? ⟨w.heap.size + 1 + 1, 0, none⟩ = false := frozen_of_row _ _ _ _ _ HD2.out
  have z0 : (((w2.setCell ⟨w.heap.size, 0, none⟩ (.slice none 0 0)).setCell ⟨w.heap.size + 1, 0, none⟩ (.int .i64 0)).setCell ⟨w.heap.size + 1 + 1, 0, none⟩ (.bool false)).heap[w.heap.size]? = some (.cells #[.slice none 0 0] 29 (0, 0)) := (heap_setCell_other _ _ _ _ (by show w.heap.size ≠ w.heap.size + 1 + 1; omega)).trans ((heap_setCell_other _ _ _ _ (by show w.heap.size ≠ w.heap.size + 1; omega)).trans (heap_setCell_same _ _ 0 _ _ _ HA2.out))
  have z1 : (((w2.setCell ⟨w.heap.size, 0, none⟩ (.slice none 0 0)).setCell ⟨w.heap.size + 1, 0, none⟩ (.int .i64 0)).setCell ⟨w.heap.size + 1 + 1, 0, none⟩ (.bool false)).heap[w.heap.size + 1]? = some (.cells #[.int .i64 0] 2 (0, 0)) := (heap_setCell_other _ _ _ _ (by show w.heap.size + 1 ≠ w.heap.size + 1 + 1; omega)).trans (heap_setCell_same _ _ 0 _ _ _ ((heap_setCell_other _ _ _ _ (by show w.heap.size + 1 ≠ w.heap.size; omega)).trans HC2.out))
  have z2 : (((w2.setCell ⟨w.heap.size, 0, none⟩ (.slice none 0 0)).setCell ⟨w.heap.size + 1, 0, none⟩ (.int .i64 0)).setCell ⟨w.heap.size + 1 + 1, 0, none⟩ (.bool false)).heap[w.heap.size + 1 + 1]? = some (.cells #[.bool false] 4 (0, 0)) := heap_setCell_same _ _ 0 _ _ _ ((heap_setCell_other _ _ _ _ (by show w.heap.size + 1 + 1 ≠ w.heap.size + 1; omega)).trans ((heap_setCell_other _ _ _ _ (by show w.heap.size + 1 + 1 ≠ w.heap.size; omega)).trans HD2.out))
  have HZ0 := Lib.hid z0
  have HZ1 := Lib.hid z1
  have HZ2 := Lib.hid z2
  have HBz : Hid (Below w.heap.size w (((w2.setCell ⟨w.heap.size, 0, none⟩ (.slice none 0 0)).setCell ⟨w.heap.size + 1, 0, none⟩ (.int .i64 0)).setCell ⟨w.heap.size + 1 + 1, 0, none⟩ (.bool false))) := ((HB2.out.setCell (p := ⟨w.heap.size, 0, none⟩) (Nat.le_refl _) _).setCell (p := ⟨w.heap.size + 1, 0, none⟩) (by show _ ≤ w.heap.size + 1; omega) _).setCell (p := ⟨w.heap.size + 1 + 1, 0, none⟩) (by show _ ≤ w.heap.size + 1 + 1; omega) _
  clear z0 z1 z2
  gi_wp2
  refine ⟨trivial, ?_⟩
  gi_wp2
  refine ⟨trivial, ?_⟩
  gi_wp2
  change bodyPostM _ _ _ _ _ _ _ (((w2.setCell ⟨w.heap.size, 0, none⟩ (.slice none 0 0)).setCell ⟨w.heap.size + 1, 0, none⟩ (.int .i64 0)).setCell ⟨w.heap.size + 1 + 1, 0, none⟩ (.bool false))
  generalize ((w2.setCell ⟨w.heap.size, 0, none⟩ (.slice none 0 0)).setCell ⟨w.heap.size + 1, 0, none⟩ (.int .i64 0)).setCell ⟨w.heap.size + 1 + 1, 0, none⟩ (.bool false) = wf at HZ0 HZ1 HZ2 HBz ⊢
  have q0 : wf.cell? ⟨w.heap.size, 0, none⟩ = some (.slice none 0 0) := (cell_of_row _ _ _ _ _ _ HZ0.out).trans rfl
  have q1 : wf.cell? ⟨w.heap.size + 1, 0, none⟩ = some (.int .i64 0) := (cell_of_row _ _ _ _ _ _ HZ1.out).trans rfl
  have q2 : wf.cell? ⟨w.heap.size + 1 + 1, 0, none⟩ = some (.bool false) := (cell_of_row _ _ _ _ _ _ HZ2.out).trans rfl
  exact ⟨.tuple #[.slice none 0 0, .int .i64 0, .bool false], by simp [results, Tryz.results7, go_sem, q0, q1, q2], none, 0, rfl, own_noRw _ _ _ _, HBz.out⟩
 gi_wp2_with fail
 refine ⟨trivial, (callsIn_wide.2 (implPricesOk w2 w.heap.size pa pn pc ps (HPr.out.below HB2.out (Nat.le_refl _)) (by omega) hpn)).mono ?_⟩
 rintro e w3 ⟨rfl, hb⟩
 have hs3 := hb.size
 have HB3 := Lib.hid (HB2.out.trans (hb.mono (by omega)))
 have HA3 := Lib.hid ((hb.block _ (Array.getElem?_eq_some_iff.1 HA2.out).1).trans HA2.out)
 have HC3 := Lib.hid ((hb.block _ (Array.getElem?_eq_some_iff.1 HC2.out).1).trans HC2.out)
 have HD3 := Lib.hid ((hb.block _ (Array.getElem?_eq_some_iff.1 HD2.out).1).trans HD2.out)
 clear hb HB2 HA2 HC2 HD2
 obtain ⟨b2, hb2⟩ : ∃ b, PrsB ps = b := ⟨_, rfl⟩
 have HVP := Lib.hid hb2
 rw [hb2]
 clear hb2
 cases b2
 ·skip
  obtain rfl : R = false := by rw [← HR.out]; exact bill_2 HVP.out
  have c0 : w3.cell? ⟨w.heap.size, 0, none⟩ = some (.slice none 0 0) := (cell_of_row _ _ _ _ _ _ HA3.out).trans rfl
  have f0 : w3.frozen? ⟨w.heap.size, 0, none⟩ = false := frozen_of_row _ _ _ _ _ HA3.out
  have c1 : w3.cell? ⟨w.heap.size + 1, 0, none⟩ = some (.int .i64 0) := (cell_of_row _ _ _ _ _ _ HC3.out).trans rfl
  have f1 : w3.frozen? ⟨w.heap.size + 1, 0, none⟩ = false := frozen_of_row _ _ _ _ _ HC3.out
  have c2 : w3.cell? ⟨w.heap.size + 1 + 1, 0, none⟩ = some (.bool false) := (cell_of_row _ _ _ _ _ _ HD3.out).trans rfl
  have f2 : w3.frozen? ⟨w.heap.size + 1 + 1, 0, none⟩ = false := frozen_of_row _ _ _ _ _ HD3.out
  have z0 : (((w3.setCell ⟨w.heap.size, 0, none⟩ (.slice none 0 0)).setCell ⟨w.heap.size + 1, 0, none⟩ (.int .i64 0)).setCell ⟨w.heap.size + 1 + 1, 0, none⟩ (.bool false)).heap[w.heap.size]? = some (.cells #[.slice none 0 0] 29 (0, 0)) := (heap_setCell_other _ _ _ _ (by show w.heap.size ≠ w.heap.size + 1 + 1; omega)).trans ((heap_setCell_other _ _ _ _ (by show w.heap.size ≠ w.heap.size + 1; omega)).trans (heap_setCell_same _ _ 0 _ _ _ HA3.out))
  have z1 : (((w3.setCell ⟨w.heap.size, 0, none⟩ (.slice none 0 0)).setCell ⟨w.heap.size + 1, 0, none⟩ (.int .i64 0)).setCell ⟨w.heap.size + 1 + 1, 0, none⟩ (.bool false)).heap[w.heap.size + 1]? = some (.cells #[.int .i64 0] 2 (0, 0)) := (heap_setCell_other _ _ _ _ (by show w.heap.size + 1 ≠ w.heap.size + 1 + 1; omega)).trans (heap_setCell_same _ _ 0 _ _ _ ((heap_setCell_other _ _ _ _ (by show w.heap.size + 1 ≠ w.heap.size; omega)).trans HC3.out))
  have z2 : (((w3.setCell ⟨w.heap.size, 0, none⟩ (.slice none 0 0)).setCell ⟨w.heap.size + 1, 0, none⟩ (.int .i64 0)).setCell ⟨w.heap.size + 1 + 1, 0, none⟩ (.bool false)).heap[w.heap.size + 1 + 1]? = some (.cells #[.bool false] 4 (0, 0)) := heap_setCell_same _ _ 0 _ _ _ ((heap_setCell_other _ _ _ _ (by show w.heap.size + 1 + 1 ≠ w.heap.size + 1; omega)).trans ((heap_setCell_other _ _ _ _ (by show w.heap.size + 1 + 1 ≠ w.heap.size; omega)).trans HD3.out))
  have HZ0 := Lib.hid z0
  have HZ1 := Lib.hid z1
  have HZ2 := Lib.hid z2
  have HBz : Hid (Below w.heap.size w (((w3.setCell ⟨w.heap.size, 0, none⟩ (.slice none 0 0)).setCell ⟨w.heap.size + 1, 0, none⟩ (.int .i64 0)).setCell ⟨w.heap.size + 1 + 1, 0, none⟩ (.bool false))) := ((HB3.out.setCell (p := ⟨w.heap.size, 0, none⟩) (Nat.le_refl _) _).setCell (p := ⟨w.heap.size + 1, 0, none⟩) (by show _ ≤ w.heap.size + 1; omega) _).setCell (p := ⟨w.heap.size + 1 + 1, 0, none⟩) (by show _ ≤ w.heap.size + 1 + 1; omega) _
  clear z0 z1 z2
  gi_wp2
  refine ⟨trivial, ?_⟩
  gi_wp2
  change bodyPostM _ _ _ _ _ _ _ (((w3.setCell ⟨w.heap.size, 0, none⟩ (.slice none 0 0)).setCell ⟨w.heap.size + 1, 0, none⟩ (.int .i64 0)).setCell ⟨w.heap.size + 1 + 1, 0, none⟩ (.bool false))
  generalize ((w3.setCell ⟨w.heap.size, 0, none⟩ (.slice none 0 0)).setCell ⟨w.heap.size + 1, 0, none⟩ (.int .i64 0)).setCell ⟨w.heap.size + 1 + 1, 0, none⟩ (.bool false) = wf at HZ0 HZ1 HZ2 HBz ⊢
  have q0 : wf.cell? ⟨w.heap.size, 0, none⟩ = some (.slice none 0 0) := (cell_of_row _ _ _ _ _ _ HZ0.out).trans rfl
  have q1 : wf.cell? ⟨w.heap.size + 1, 0, none⟩ = some (.int .i64 0) := (cell_of_row _ _ _ _ _ _ HZ1.out).trans rfl
  have q2 : wf.cell? ⟨w.heap.size + 1 + 1, 0, none⟩ = some (.bool false) := (cell_of_row _ _ _ _ _ _ HZ2.out).trans rfl
  exact ⟨.tuple #[.slice none 0 0, .int .i64 0, .bool false], by simp [results, Tryz.results7, go_sem, q0, q1, q2], none, 0, rfl, own_noRw _ _ _ _, HBz.out⟩
 gi_wp2_with fail
 refine ⟨trivial, (callsIn_wide.2 (implOffersOk w3 w.heap.size oa on oc os (HOf.out.below HB3.out (Nat.le_refl _)) (by omega) hon)).mono ?_⟩
 rintro e w4 ⟨rfl, hb⟩
 have hs4 := hb.size
 have HB4 := Lib.hid (HB3.out.trans (hb.mono (by omega)))
 have HA4 := Lib.hid ((hb.block _ (Array.getElem?_eq_some_iff.1 HA3.out).1).trans HA3.out)
 have HC4 := Lib.hid ((hb.block _ (Array.getElem?_eq_some_iff.1 HC3.out).1).trans HC3.out)
 have HD4 := Lib.hid ((hb.block _ (Array.getElem?_eq_some_iff.1 HD3.out).1).trans HD3.out)
 clear hb HB3 HA3 HC3 HD3
 obtain ⟨b3, hb3⟩ : ∃ b, OfsB os = b := ⟨_, rfl⟩
 have HVO := Lib.hid hb3
 rw [hb3]
 clear hb3
 cases b3
 ·skip
  obtain rfl : R = false := by rw [← HR.out]; exact bill_3 HVO.out
  have c0 : w4.cell? ⟨w.heap.size, 0, none⟩ = some (.slice none 0 0) := (cell_of_row _ _ _ _ _ _ HA4.out).trans rfl
  have f0 : w4.frozen? ⟨w.heap.size, 0, none⟩ = false := frozen_of_row _ _ _ _ _ HA4.out
  have c1 : w4.cell? ⟨w.heap.size + 1, 0, none⟩ = some (.int .i64 0) := (cell_of_row _ _ _ _ _ _ HC4.out).trans rfl
  have f1 : w4.frozen? ⟨w.heap.size + 1, 0, none⟩ = false := frozen_of_row _ _ _ _ _ HC4.out
  have c2 : w4.cell? ⟨w.heap.size + 1 + 1, 0, none⟩ = some (.bool false) := (cell_of_row _ _ _ _ _ _ HD4.out).trans rfl
  have f2 : w4.frozen? ⟨w.heap.size + 1 + 1, 0, none⟩ = false := frozen_of_row _ _ _ _ _ HD4.out
  have z0 : (((w4.setCell ⟨w.heap.size, 0, none⟩ (.slice none 0 0)).setCell ⟨w.heap.size + 1, 0, none⟩ (.int .i64 0)).setCell ⟨w.heap.size + 1 + 1, 0, none⟩ (.bool false)).heap[w.heap.size]? = some (.cells #[.slice none 0 0] 29 (0, 0)) := (heap_setCell_other _ _ _ _ (by show w.heap.size ≠ w.heap.size + 1 + 1; omega)).trans ((heap_setCell_other _ _ _ _ (by show w.heap.size ≠ w.heap.size + 1; omega)).trans (heap_setCell_same _ _ 0 _ _ _ HA4.out))
  have z1 : (((w4.setCell ⟨w.heap.size, 0, none⟩ (.slice none 0 0)).setCell ⟨w.heap.size + 1, 0, none⟩ (.int .i64 0)).setCell ⟨w.heap.size + 1 + 1, 0, none⟩ (.bool false)).heap[w.heap.size + 1]? = some (.cells #[.int .i64 0] 2 (0, 0)) := (heap_setCell_other _ _ _ _ (by show w.heap.size + 1 ≠ w.heap.size + 1 + 1; omega)).trans (heap_setCell_same _ _ 0 _ _ _ ((heap_setCell_other _ _ _ _ (by show w.heap.size + 1 ≠ w.heap.size; omega)).trans HC4.out))
  have z2 : (((w4.setCell ⟨w.heap.size, 0, none⟩ (.slice none 0 0)).setCell ⟨w.heap.size + 1, 0, none⟩ (.int .i64 0)).setCell ⟨w.heap.size + 1 + 1, 0, none⟩ (.bool false)).heap[w.heap.size + 1 + 1]? = some (.cells #[.bool false] 4 (0, 0)) := heap_setCell_same _ _ 0 _ _ _ ((heap_setCell_other _ _ _ _ (by show w.heap.size + 1 + 1 ≠ w.heap.size + 1; omega)).trans ((heap_setCell_other _ _ _ _ (by show w.heap.size + 1 + 1 ≠ w.heap.size; omega)).trans HD4.out))
  have HZ0 := Lib.hid z0
  have HZ1 := Lib.hid z1
  have HZ2 := Lib.hid z2
  have HBz : Hid (Below w.heap.size w (((w4.setCell ⟨w.heap.size, 0, none⟩ (.slice none 0 0)).setCell ⟨w.heap.size + 1, 0, none⟩ (.int .i64 0)).setCell ⟨w.heap.size + 1 + 1, 0, none⟩ (.bool false))) := ((HB4.out.setCell (p := ⟨w.heap.size, 0, none⟩) (Nat.le_refl _) _).setCell (p := ⟨w.heap.size + 1, 0, none⟩) (by show _ ≤ w.heap.size + 1; omega) _).setCell (p := ⟨w.heap.size + 1 + 1, 0, none⟩) (by show _ ≤ w.heap.size + 1 + 1; omega) _
  clear z0 z1 z2
  gi_wp2
  change bodyPostM _ _ _ _ _ _ _ (((w4.setCell ⟨w.heap.size, 0, none⟩ (.slice none 0 0)).setCell ⟨w.heap.size + 1, 0, none⟩ (.int .i64 0)).setCell ⟨w.heap.size + 1 + 1, 0, none⟩ (.bool false))
  generalize ((w4.setCell ⟨w.heap.size, 0, none⟩ (.slice none 0 0)).setCell ⟨w.heap.size + 1, 0, none⟩ (.int .i64 0)).setCell ⟨w.heap.size + 1 + 1, 0, none⟩ (.bool false) = wf at HZ0 HZ1 HZ2 HBz ⊢
  have q0 : wf.cell? ⟨w.heap.size, 0, none⟩ = some (.slice none 0 0) := (cell_of_row _ _ _ _ _ _ HZ0.out).trans rfl
  have q1 : wf.cell? ⟨w.heap.size + 1, 0, none⟩ = some (.int .i64 0) := (cell_of_row _ _ _ _ _ _ HZ1.out).trans rfl
  have q2 : wf.cell? ⟨w.heap.size + 1 + 1, 0, none⟩ = some (.bool false) := (cell_of_row _ _ _ _ _ _ HZ2.out).trans rfl
  exact ⟨.tuple #[.slice none 0 0, .int .i64 0, .bool false], by simp [results, Tryz.results7, go_sem, q0, q1, q2], none, 0, rfl, own_noRw _ _ _ _, HBz.out⟩
 have HBill := Lib.hid (bill_4 HVL.out HVP.out HVO.out)
 gi_wp2_with fail
 refine ⟨trivial, (billRows la pa oa ln lc pn pc on oc _ _).mono ?_⟩
 rintro e w' ⟨rfl, rfl⟩
 have e0 : (((((w4.alloc (.cells #[.slice none 0 0] 29)).alloc (.cells #[.int .i64 0] 2)).alloc (.cells #[.slice la ln lc] 24)).alloc (.cells #[.slice pa pn pc] 25)).alloc (.cells #[.slice oa on oc] 26)).heap[w4.heap.size]? = some (.cells #[.slice none 0 0] 29 (0, 0)) := by
  show (((((w4.heap.push _).push _).push _).push _).push _)[_]? = _
  rw [Array.getElem?_push, if_neg (by first | (simp; done) | (simp; omega)), Array.getElem?_push, if_neg (by first | (simp; done) | (simp; omega)), Array.getElem?_push, if_neg (by first | (simp; done) | (simp; omega)), Array.getElem?_push, if_neg (by first | (simp; done) | (simp; omega)), Array.getElem?_push, if_pos (by simp)]
 have e1 : (((((w4.alloc (.cells #[.slice none 0 0] 29)).alloc (.cells #[.int .i64 0] 2)).alloc (.cells #[.slice la ln lc] 24)).alloc (.cells #[.slice pa pn pc] 25)).alloc (.cells #[.slice oa on oc] 26)).heap[w4.heap.size + 1]? = some (.cells #[.int .i64 0] 2 (0, 0)) := by
  show (((((w4.heap.push _).push _).push _).push _).push _)[_]? = _
  rw [Array.getElem?_push, if_neg (by first | (simp; done) | (simp; omega)), Array.getElem?_push, if_neg (by first | (simp; done) | (simp; omega)), Array.getElem?_push, if_neg (by first | (simp; done) | (simp; omega)), Array.getElem?_push, if_pos (by simp)]
 have e2 : (((((w4.alloc (.cells #[.slice none 0 0] 29)).alloc (.cells #[.int .i64 0] 2)).alloc (.cells #[.slice la ln lc] 24)).alloc (.cells #[.slice pa pn pc] 25)).alloc (.cells #[.slice oa on oc] 26)).heap[w4.heap.size + 1 + 1]? = some (.cells #[.slice la ln lc] 24 (0, 0)) := by
  show (((((w4.heap.push _).push _).push _).push _).push _)[_]? = _
  rw [Array.getElem?_push, if_neg (by first | (simp; done) | (simp; omega)), Array.getElem?_push, if_neg (by first | (simp; done) | (simp; omega)), Array.getElem?_push, if_pos (by simp)]
 have e3 : (((((w4.alloc (.cells #[.slice none 0 0] 29)).alloc (.cells #[.int .i64 0] 2)).alloc (.cells #[.slice la ln lc] 24)).alloc (.cells #[.slice pa pn pc] 25)).alloc (.cells #[.slice oa on oc] 26)).heap[w4.heap.size + 1 + 1 + 1]? = some (.cells #[.slice pa pn pc] 25 (0, 0)) := by
  show (((((w4.heap.push _).push _).push _).push _).push _)[_]? = _
  rw [Array.getElem?_push, if_neg (by first | (simp; done) | (simp; omega)), Array.getElem?_push, if_pos (by simp)]
 have e4 : (((((w4.alloc (.cells #[.slice none 0 0] 29)).alloc (.cells #[.int .i64 0] 2)).alloc (.cells #[.slice la ln lc] 24)).alloc (.cells #[.slice pa pn pc] 25)).alloc (.cells #[.slice oa on oc] 26)).heap[w4.heap.size + 1 + 1 + 1 + 1]? = some (.cells #[.slice oa on oc] 26 (0, 0)) := by
  show (((((w4.heap.push _).push _).push _).push _).push _)[_]? = _
  rw [Array.getElem?_push, if_pos (by simp)]
 have hb : Below w4.heap.size w4 (((((w4.alloc (.cells #[.slice none 0 0] 29)).alloc (.cells #[.int .i64 0] 2)).alloc (.cells #[.slice la ln lc] 24)).alloc (.cells #[.slice pa pn pc] 25)).alloc (.cells #[.slice oa on oc] 26)) := ((((((Below.refl _ w4).alloc (Nat.le_refl _) _).alloc (by simp) _).alloc (by simp; omega) _).alloc (by simp; omega) _).alloc (by simp; omega) _)
 have hsz9 : (((((w4.alloc (.cells #[.slice none 0 0] 29)).alloc (.cells #[.int .i64 0] 2)).alloc (.cells #[.slice la ln lc] 24)).alloc (.cells #[.slice pa pn pc] 25)).alloc (.cells #[.slice oa on oc] 26)).heap.size = w4.heap.size + 1 + 1 + 1 + 1 + 1 := by simp
 simp only [World.size_alloc]
 gi_wp2
 have HB9 := Lib.hid (HB4.out.trans (hb.mono (by omega)))
 have HA9 := Lib.hid ((hb.block _ (Array.getElem?_eq_some_iff.1 HA4.out).1).trans HA4.out)
 have HC9 := Lib.hid ((hb.block _ (Array.getElem?_eq_some_iff.1 HC4.out).1).trans HC4.out)
 have HD9 := Lib.hid ((hb.block _ (Array.getElem?_eq_some_iff.1 HD4.out).1).trans HD4.out)
 have E0 := Lib.hid e0
 have E1 := Lib.hid e1
 have E2 := Lib.hid e2
 have E3 := Lib.hid e3
 have E4 := Lib.hid e4
 clear e0 e1 e2 e3 e4 hb HB4 HA4 HC4 HD4
 generalize (((((w4.alloc (.cells #[.slice none 0 0] 29)).alloc (.cells #[.int .i64 0] 2)).alloc (.cells #[.slice la ln lc] 24)).alloc (.cells #[.slice pa pn pc] 25)).alloc (.cells #[.slice oa on oc] 26)) = W0 at HB9 HA9 HC9 HD9 E0 E1 E2 E3 E4 hsz9 ⊢
 have hwx : w.heap.size + 3 ≤ w4.heap.size := by omega
 generalize w4.heap.size = X at E0 E1 E2 E3 E4 hsz9 hwx ⊢
 refine wpIn_rangeFunc_ownH rfl (by omega) (gf := 47) (lb := #[.pointer (some ⟨X + 1 + 1, 0, none⟩), .pointer (some ⟨X + 1 + 1 + 1, 0, none⟩), .pointer (some ⟨X + 1 + 1 + 1 + 1, 0, none⟩)]) rfl trivial (enters_of Tryz.func47 (by kernel_rfl) rfl)
  (br_stops _ (by omega) (X + 1 + 1) (X + 1 + 1 + 1) (X + 1 + 1 + 1 + 1) w.heap.size la pa oa ln lc pn pc on oc l ps os HVL.out HVP.out HVO.out HM.out hln hpn hon W0 E2.out E3.out E4.out (HLn.out.below HB9.out (Nat.le_refl _)) (HPr.out.below HB9.out (Nat.le_refl _)) (HOf.out.below HB9.out (Nat.le_refl _)) (by omega))
  (fun h k => KB.trans h k) (fun W l' o1 o2 h1 h2 h3 h4 => kb_put (w0 := W0) (by omega) (by omega) W l' o1 o2 h1 h2 h3 h4) (Below.refl _ _) (fun _ => rfl)
  (fun ys W => BillI w X ps os l (ys.map Subtype.val) W) (fun c ys W => c = .ret ∧ BillX w ps (ys.map Subtype.val) W)
  (fun ys A1 A2 row h1 h2 h3 => BillI.own (B := W0.heap.size) (by omega) _ A1 A2 row h1 h2 h3) (fun c ys A1 A2 row h1 h2 h3 => ⟨h1.1, BillX.own (B := W0.heap.size) (by omega) _ A1 A2 row h1.2 h2 h3⟩)
  ⟨⟨.slice none 0 0, E0.out, World.ownsRow_nil _ _ _ _⟩, E1.out, HA9.out, HC9.out, HD9.out, fun x hx => absurd hx (by simp), fun x hx => absurd hx (by simp), HB9.out, by omega⟩
  (fun x a' W => ∃ Bx, X + 1 + 1 + 1 + 1 < Bx ∧ (∃ v, W.heap[X]? = some (.cells #[v] 29 (0, 0)) ∧ v.ownBlock ≠ some Bx) ∧ W.heap[Bx]? = some (.cells #[.string x.1.item, .int .i64 x.1.qty, .int .i64 (centsOf ps x.1.item * qtyPaid os x.1)] 42 (0, 0)) ∧ a' = { tmps := #[.slice la ln lc, .slice pa pn pc, .slice oa on oc, undef, undef, undef, .pointer (some ⟨w.heap.size, 0, none⟩), .pointer (some ⟨w.heap.size + 1, 0, none⟩), .pointer (some ⟨w.heap.size + 1 + 1, 0, none⟩), .pointer (some ⟨X, 0, none⟩), .pointer (some ⟨X + 1, 0, none⟩), .pointer (some ⟨Bx, 0, none⟩), .bool (hasP ps x.1), .slice la ln lc, .bool true, .bool false, .bool false, .slice pa pn pc, .bool true, .bool false, .bool false, .bool false, .slice oa on oc, .bool true, .bool false, .bool false, .slice la ln lc, .slice pa pn pc, .slice oa on oc, .func (.func 47) #[] #[.pointer (some ⟨X + 1 + 1, 0, none⟩), .pointer (some ⟨X + 1 + 1 + 1, 0, none⟩), .pointer (some ⟨X + 1 + 1 + 1 + 1, 0, none⟩)], .agg #[.string x.1.item, .int .i64 x.1.qty, .int .i64 (centsOf ps x.1.item * qtyPaid os x.1)], .bool (hasP ps x.1), undef, undef, undef, undef, undef, undef, undef, undef, undef, undef, undef, undef], defers := [] })
  (fun x a' s A1 A2 row hs hg hr => by
   obtain ⟨Bx, h1, ⟨v, h4, h5⟩, h2, h3⟩ := hs
   exact ⟨Bx, h1, ⟨v, cell_kept h4 hg hr, h5⟩, cell_kept h2 hg hr, h3⟩) ?assign ?body ?done ?stop
 case assign =>
  rintro lp pre x W K hI hK
  gi_wp2
  obtain ⟨v, hv, hrow⟩ := hI.rows
  refine hK _ _ ((KeepsOthers.alloc _ _).from _) ⟨(Below.refl _ W).alloc (by have := hI.big; omega) _, Below.heap_alloc _ _ _ (by have := hI.big; omega), Below.heap_alloc _ _ _ (by have := hI.big; omega)⟩ ?_ ⟨W.heap.size, by have := hI.big; omega, ⟨v, (Below.heap_alloc _ _ _ (by have := hI.big; omega)).trans hv, fun h => by have := (hrow.lt _ h).2; omega⟩, World.alloc_heap_new W _, rfl⟩
  exact BillI.own (B := w.heap.size) (Nat.le_refl _) _ W _ none hI (below_grown ((Below.refl _ W).alloc (Nat.le_refl _) _)) (fun r e => by cases e)
 case body =>
  rintro lp pre x a' W hl hr hI ⟨Bx, hBx, ⟨v, hv, hvb⟩, hX, rfl⟩ hlen
  clear hl hr
  have HI := Lib.hid hI
  have hbig := hI.big
  have k0 : W.cell? ⟨w.heap.size, 0, none⟩ = some (.slice none 0 0) := (cell_of_row _ _ _ _ _ _ hI.r0).trans rfl
  have k1 : W.cell? ⟨w.heap.size + 1, 0, none⟩ = some (.int .i64 0) := (cell_of_row _ _ _ _ _ _ hI.r1).trans rfl
  have k2 : W.cell? ⟨w.heap.size + 1 + 1, 0, none⟩ = some (.bool false) := (cell_of_row _ _ _ _ _ _ hI.r2).trans rfl
  obtain ⟨pb, hpb⟩ : ∃ b, hasP ps x.1 = b := ⟨_, rfl⟩
  have HPb := Lib.hid hpb
  rw [hpb]
  clear hpb
  cases pb
  ·have f0 : W.frozen? ⟨w.heap.size, 0, none⟩ = false := frozen_of_row _ _ _ _ _ hI.r0
   have f1 : W.frozen? ⟨w.heap.size + 1, 0, none⟩ = false := frozen_of_row _ _ _ _ _ hI.r1
   have f2 : W.frozen? ⟨w.heap.size + 1 + 1, 0, none⟩ = false := frozen_of_row _ _ _ _ _ hI.r2
   clear hI hv hvb hX
   gi_wp2
   refine ⟨(((KeepsOthers.setCell _ _ _).trans (KeepsOthers.setCell _ _ _)).trans (KeepsOthers.setCell _ _ _)).from _, rfl, ?_⟩
   exact ⟨(heap_setCell_other _ _ _ _ (by show w.heap.size ≠ w.heap.size + 1 + 1; omega)).trans ((heap_setCell_other _ _ _ _ (by show w.heap.size ≠ w.heap.size + 1; omega)).trans (heap_setCell_same _ _ 0 _ _ _ HI.out.r0)), (heap_setCell_other _ _ _ _ (by show w.heap.size + 1 ≠ w.heap.size + 1 + 1; omega)).trans (heap_setCell_same _ _ 0 _ _ _ ((heap_setCell_other _ _ _ _ (by show w.heap.size + 1 ≠ w.heap.size; omega)).trans HI.out.r1)), heap_setCell_same _ _ 0 _ _ _ ((heap_setCell_other _ _ _ _ (by show w.heap.size + 1 + 1 ≠ w.heap.size + 1; omega)).trans ((heap_setCell_other _ _ _ _ (by show w.heap.size + 1 + 1 ≠ w.heap.size; omega)).trans HI.out.r2)), ⟨x.1, by simp, HPb.out⟩, ((HI.out.bel.setCell (p := ⟨w.heap.size, 0, none⟩) (Nat.le_refl _) _).setCell (p := ⟨w.heap.size + 1, 0, none⟩) (by show _ ≤ w.heap.size + 1; omega) _).setCell (p := ⟨w.heap.size + 1 + 1, 0, none⟩) (by show _ ≤ w.heap.size + 1 + 1; omega) _⟩
  obtain ⟨v1, hv1, hrow⟩ := hI.rows
  obtain rfl : v1 = v := by
   have h := Option.some.inj (hv1.symm.trans hv)
   injection h with h
   simpa using h
  have hll := (lns_parts HVL.out).2
  have hpl : (pre.map Subtype.val).length = pre.length := List.length_map _
  obtain ⟨v2, w2, hrun, hrow2, hb2, hg2⟩ := appRw W (X + 1 + 1 + 1 + 1 + 1) v1 _ _ hrow (rowV ps os x.1) (by rw [hpl]; omega) hbig
  obtain ⟨va, vn, vc, rfl⟩ : ∃ a n c, v2 = .slice a n c := by
   rcases hrow2.2 with ⟨e, _⟩ | ⟨g, cap, cur, e, _⟩ <;> exact ⟨_, _, _, e⟩
  have hrun : (Builtin.append_ #[29, 29] 29 #[v1, .slice (some ⟨W.heap.size, 0, none⟩) 1 1]).run Tryz.prog (W.alloc (.cells #[.string x.1.item, .int .i64 x.1.qty, .int .i64 (centsOf ps x.1.item * qtyPaid os x.1)] 42)) = .ok (.slice va vn vc) w2 := hrun
  have hbl := (Array.getElem?_eq_some_iff.1 hX).1
  have x2 : w2.heap[X]? = some (.cells #[v1] 29 (0, 0)) := (hb2.block _ (by omega)).trans hv
  have s2 : w2.heap[X + 1]? = some (.cells #[.int .i64 (sumR ((pre.map Subtype.val).map (rowV ps os)))] 2 (0, 0)) := (hb2.block _ (by omega)).trans hI.sum
  have hX2 : w2.heap[Bx]? = some (.cells #[.string x.1.item, .int .i64 x.1.qty, .int .i64 (centsOf ps x.1.item * qtyPaid os x.1)] 42 (0, 0)) := (hg2.block Bx (Nat.lt_of_lt_of_le hbl (by simp)) (fun h => hvb h.symm)).trans ((Below.heap_alloc _ _ _ hbl).trans hX)
  have HX3 : Hid ((w2.setCell ⟨X, 0, none⟩ (.slice va vn vc)).heap[X]? = some (.cells #[.slice va vn vc] 29 (0, 0))) := heap_setCell_same _ _ 0 _ _ _ x2
  have s3 : (w2.setCell ⟨X, 0, none⟩ (.slice va vn vc)).heap[X + 1]? = some (.cells #[.int .i64 (sumR ((pre.map Subtype.val).map (rowV ps os)))] 2 (0, 0)) := (heap_setCell_other _ _ _ _ (by show X + 1 ≠ X; omega)).trans s2
  have hX3 : (w2.setCell ⟨X, 0, none⟩ (.slice va vn vc)).heap[Bx]? = some (.cells #[.string x.1.item, .int .i64 x.1.qty, .int .i64 (centsOf ps x.1.item * qtyPaid os x.1)] 42 (0, 0)) := (heap_setCell_other _ _ _ _ (by show Bx ≠ X; omega)).trans hX2
  have HS3 := Lib.hid s3
  obtain ⟨d0, d1, d2⟩ := threeO hX
  have d3 : W.cell? ⟨X, 0, none⟩ = some v1 := (cell_of_row _ _ _ _ _ _ hv).trans rfl
  have d4 : w2.cell? ⟨X, 0, none⟩ = some v1 := (cell_of_row _ _ _ _ _ _ x2).trans rfl
  have d5 : w2.frozen? ⟨X, 0, none⟩ = false := frozen_of_row _ _ _ _ _ x2
  have d6 : (w2.setCell ⟨X, 0, none⟩ (.slice va vn vc)).cell? ⟨X + 1, 0, none⟩ = some (.int .i64 (sumR ((pre.map Subtype.val).map (rowV ps os)))) := (cell_of_row _ _ _ _ _ _ s3).trans rfl
  have d7 : (w2.setCell ⟨X, 0, none⟩ (.slice va vn vc)).frozen? ⟨X + 1, 0, none⟩ = false := frozen_of_row _ _ _ _ _ s3
  have d8 := (threeO hX3).2.2
  have hsum := sum_le HVP.out HVO.out (pre.map Subtype.val) hI.oks
  have hrw := row_le HVP.out HVO.out x.2
  have hrwe : (rowV ps os x.1).cents = centsOf ps x.1.item * qtyPaid os x.1 := rfl
  have hwr : IntKind.i64.wrap (sumR ((pre.map Subtype.val).map (rowV ps os)) + centsOf ps x.1.item * qtyPaid os x.1) = sumR ((pre.map Subtype.val).map (rowV ps os)) + centsOf ps x.1.item * qtyPaid os x.1 := IntWalk.i64_in _ (by rw [hpl] at hsum; omega)
  have HSn : Hid (sumR (((pre ++ [x]).map Subtype.val).map (rowV ps os)) = sumR ((pre.map Subtype.val).map (rowV ps os)) + centsOf ps x.1.item * qtyPaid os x.1) := by show _ = _; rw [List.map_append, List.map_append]; exact sumR_snoc _ _
  have HRn : Hid (rwCells (((pre ++ [x]).map Subtype.val).map (rowV ps os)) = rwCells ((pre.map Subtype.val).map (rowV ps os) ++ [rowV ps os x.1])) := by show _ = _; rw [List.map_append, List.map_append]; rfl
  have HLn' : Hid (((pre ++ [x]).map Subtype.val).length = (pre.map Subtype.val).length + 1) := by show _ = _; rw [List.map_append, List.length_append]; rfl
  have hcel := row_isCells (hrow.alloc (.cells #[.string x.1.item, .int .i64 x.1.qty, .int .i64 (centsOf ps x.1.item * qtyPaid os x.1)] 42))
  have HG2 := Lib.hid hg2
  have HB2 := Lib.hid hb2
  have HR2 := Lib.hid hrow2
  have HC2 := Lib.hid hcel
  clear hrow hI hsum hrw hv hv1 x2 s2 hX hX2 hX3 s3 hg2 hb2 hrow2 hcel hvb
  generalize sumR ((pre.map Subtype.val).map (rowV ps os)) = S at d6 hwr HSn HS3 ⊢
  gi_wp2_with (refine wpListInApp rfl _ _ _ rfl _ _ rfl rfl hrun ?_)
  have hbig := HI.out.big
  have hs2 := HB2.out.size
  have hkf : KeepsFrom W0.heap.size W w2 := ⟨hs2, fun k o hBk hk ho => by
   have hlt := (Array.getElem?_eq_some_iff.1 hk).1
   have hka := (Below.heap_alloc W (.cells #[.string x.1.item, .int .i64 x.1.qty, .int .i64 (centsOf ps x.1.item * qtyPaid os x.1)] 42) _ hlt).trans hk
   exact (HG2.out.block k (Nat.lt_of_lt_of_le hlt (by simp)) (fun e => by have := HC2.out k o e.symm hka; rw [ho] at this; cases this)).trans hka⟩
  have old : ∀ j, j < X → ((w2.setCell ⟨X, 0, none⟩ (.slice va vn vc)).setCell ⟨X + 1, 0, none⟩ (.int .i64 (S + centsOf ps x.1.item * qtyPaid os x.1))).heap[j]? = W.heap[j]? := fun j hj =>
   (heap_setCell_other _ _ _ _ (by show j ≠ X + 1; omega)).trans ((heap_setCell_other _ _ _ _ (by show j ≠ X; omega)).trans (HB2.out.block _ (by omega)))
  have old2 : ∀ j, X + 1 < j → j < X + 1 + 1 + 1 + 1 + 1 → ((w2.setCell ⟨X, 0, none⟩ (.slice va vn vc)).setCell ⟨X + 1, 0, none⟩ (.int .i64 (S + centsOf ps x.1.item * qtyPaid os x.1))).heap[j]? = W.heap[j]? := fun j hj hj2 =>
   (heap_setCell_other _ _ _ _ (by show j ≠ X + 1; omega)).trans ((heap_setCell_other _ _ _ _ (by show j ≠ X; omega)).trans (HB2.out.block _ (by omega)))
  have hbel : Below w.heap.size W ((w2.setCell ⟨X, 0, none⟩ (.slice va vn vc)).setCell ⟨X + 1, 0, none⟩ (.int .i64 (S + centsOf ps x.1.item * qtyPaid os x.1))) := ((HB2.out.mono (by omega)).setCell (p := ⟨X, 0, none⟩) (by show _ ≤ X; omega) _).setCell (p := ⟨X + 1, 0, none⟩) (by show _ ≤ X + 1; omega) _
  refine ⟨hkf.trans (((KeepsOthers.setCell _ _ _).trans (KeepsOthers.setCell _ _ _)).from _), ⟨hbel, old2 _ (by omega) (by omega), old2 _ (by omega) (by omega)⟩, ?_⟩
  exact
   {
    rows := ⟨.slice va vn vc, (heap_setCell_other _ _ _ _ (by show X ≠ X + 1; omega)).trans HX3.out, by
     have := rowR_put (b := X + 1) (i := 0) (u := .int .i64 (S + centsOf ps x.1.item * qtyPaid os x.1)) (rowR_put (b := X) (i := 0) (u := .slice va vn vc) HR2.out (by omega)) (by omega)
     rw [HRn.out, HLn'.out]; exact this⟩
    sum := by rw [HSn.out]; exact heap_setCell_same _ _ 0 _ _ _ HS3.out
    r0 := (old _ (by omega)).trans HI.out.r0
    r1 := (old _ (by omega)).trans HI.out.r1
    r2 := (old _ (by omega)).trans HI.out.r2
    has := fun z hz => by
     rw [List.map_append, List.mem_append] at hz
     rcases hz with hz | hz
     ·exact HI.out.has z hz
     ·rw [List.mem_singleton.1 hz]; exact HPb.out
    oks := fun z hz => by
     rw [List.map_append, List.mem_append] at hz
     rcases hz with hz | hz
     ·exact HI.out.oks z hz
     ·rw [List.mem_singleton.1 hz]; exact x.2
    bel := HI.out.bel.trans hbel
    big := by show X + 1 + 1 + 1 + 1 + 1 ≤ _; rw [World.size_setCell, World.size_setCell]; omega }
 case done =>
  rintro D ys W hD hys hI hK
  obtain rfl : R = true := by rw [← HR.out, HBill.out]; exact List.all_eq_true.2 (fun z hz => hI.has z (by rw [hys]; exact hz))
  obtain ⟨v, hv, hrow⟩ := hI.rows
  rw [hys] at hrow
  have hrow : W.ownsRow (X + 1 + 1 + 1 + 1 + 1) 42 3 v ((openL l).map (rowV ps os)).length (rwCells ((openL l).map (rowV ps os))) := by rw [List.length_map]; exact hrow
  obtain ⟨va, vc, rfl, -⟩ := ownRws_of_cells hrow (Nat.le_refl _)
  have hbig := hI.big
  have hsum := hI.sum
  rw [hys] at hsum
  obtain ⟨SS, hSS⟩ : ∃ s, sumR ((openL l).map (rowV ps os)) = s := ⟨_, rfl⟩
  rw [hSS] at hsum
  have HSS := Lib.hid hSS
  have HRow := Lib.hid hrow
  obtain ⟨z0, hz0e⟩ : ∃ z0, W.drew = z0 := ⟨_, rfl⟩
  have t0 : Below W.heap.size W z0 := by rw [← hz0e]; exact ⟨rfl, rfl, rfl, Nat.le_refl _, fun _ _ => rfl⟩
  have hlt : ∀ {j : Nat} {o : Obj}, W.heap[j]? = some o → z0.heap[j]? = some o := fun h => (t0.block _ (Array.getElem?_eq_some_iff.1 h).1).trans h
  have HV0 := Lib.hid (hlt hv)
  have HS0 := Lib.hid (hlt hsum)
  have HA0 := Lib.hid (hlt hI.r0)
  have HC0 := Lib.hid (hlt hI.r1)
  have HD0 := Lib.hid (hlt hI.r2)
  have HK0 := Lib.hid (hlt hK)
  have HBel := Lib.hid (hI.bel.trans (t0.mono (Nat.le_trans (by omega) hI.big)))
  have HRow0 : Hid (z0.ownsRow (X + 1 + 1 + 1 + 1 + 1) 42 3 (.slice va ((openL l).map (rowV ps os)).length vc) ((openL l).map (rowV ps os)).length (rwCells ((openL l).map (rowV ps os)))) := by
   refine hrow.kept (row := none) (below_grown t0) ?_
   rcases hv : Value.ownBlock _ with _ | g
   ·exact .inl rfl
   ·exact .inr (fun e => by cases e)
  have hzs := t0.size
  clear hI hrow hv hsum hSS hK hlt hys
  have n1 : X ≠ w.heap.size := by omega
  have n2 : X + 1 ≠ w.heap.size := by omega
  have n3 : X ≠ w.heap.size + 1 := by omega
  have n4 : X + 1 ≠ w.heap.size + 1 := by omega
  have S0 : z0.cell? ⟨X, 0, none⟩ = some (.slice va ((openL l).map (rowV ps os)).length vc) ∧ z0.cell? ⟨X + 1, 0, none⟩ = some (.int .i64 SS) := ⟨(cell_of_row _ _ _ _ _ _ HV0.out).trans rfl, (cell_of_row _ _ _ _ _ _ HS0.out).trans rfl⟩
  have g0 : z0.cell? ⟨w.heap.size, 0, none⟩ = some (.slice none 0 0) := (cell_of_row _ _ _ _ _ _ HA0.out).trans rfl
  have g1 : z0.cell? ⟨w.heap.size + 1, 0, none⟩ = some (.int .i64 0) := (cell_of_row _ _ _ _ _ _ HC0.out).trans rfl
  have g2 : z0.cell? ⟨w.heap.size + 1 + 1, 0, none⟩ = some (.bool false) := (cell_of_row _ _ _ _ _ _ HD0.out).trans rfl
  have f0 : z0.frozen? ⟨w.heap.size, 0, none⟩ = false := frozen_of_row _ _ _ _ _ HA0.out
  have f1 : z0.frozen? ⟨w.heap.size + 1, 0, none⟩ = false := frozen_of_row _ _ _ _ _ HC0.out
  have f2 : z0.frozen? ⟨w.heap.size + 1 + 1, 0, none⟩ = false := frozen_of_row _ _ _ _ _ HD0.out
  have HN1 := Lib.hid (bill_len l ps os)
  have HN2 := Lib.hid (bill_sum l ps os)
  generalize (openL l).map (rowV ps os) = RS at S0 HV0 HRow0 HSS HN1 HN2 ⊢
  gi_wp2_with fail
  refine Code.wpIn_mono onlyNormal_imp ?_
  refine wpIn_wide.2 ?_
  refine wp_region_held_drew (S := fun w' => w'.cell? ⟨X, 0, none⟩ = some (.slice va RS.length vc) ∧ w'.cell? ⟨X + 1, 0, none⟩ = some (.int .i64 SS)) (by kernel_rfl) (by rw [hz0e]; exact S0) (fun hHeld => ?_)
  rw [hz0e]
  clear hHeld hz0e t0

  refine tj 0 ?_
  refine tj 1 ?_
  have hS1 : (z0.setCell ⟨w.heap.size, 0, none⟩ (.slice va RS.length vc)).cell? ⟨X, 0, none⟩ = some (.slice va RS.length vc) ∧ (z0.setCell ⟨w.heap.size, 0, none⟩ (.slice va RS.length vc)).cell? ⟨X + 1, 0, none⟩ = some (.int .i64 SS) := ⟨(World.cell?_of_block (a := ⟨X, 0, none⟩) (heap_setCell_other _ _ _ _ (by show X ≠ w.heap.size; omega))).trans S0.1, (World.cell?_of_block (a := ⟨X + 1, 0, none⟩) (heap_setCell_other _ _ _ _ (by show X + 1 ≠ w.heap.size; omega))).trans S0.2⟩
  refine rk 2 rfl (fun K hK => ?_)
  go_simp
  refine hK.out _ _ hS1 (fun hHeld2 => ?_)
  clear hK K
  (try simp only [Act.put, u1, u2, u3])
  have hS2 : ((z0.setCell ⟨w.heap.size, 0, none⟩ (.slice va RS.length vc)).setCell ⟨w.heap.size + 1, 0, none⟩ (.int .i64 SS)).cell? ⟨X, 0, none⟩ = some (.slice va RS.length vc) ∧ ((z0.setCell ⟨w.heap.size, 0, none⟩ (.slice va RS.length vc)).setCell ⟨w.heap.size + 1, 0, none⟩ (.int .i64 SS)).cell? ⟨X + 1, 0, none⟩ = some (.int .i64 SS) := ⟨(World.cell?_of_block (a := ⟨X, 0, none⟩) (heap_setCell_other _ _ _ _ (by show X ≠ w.heap.size + 1; omega))).trans hS1.1, (World.cell?_of_block (a := ⟨X + 1, 0, none⟩) (heap_setCell_other _ _ _ _ (by show X + 1 ≠ w.heap.size + 1; omega))).trans hS1.2⟩
  refine rk 3 rfl (fun K hK => ?_)
  go_simp
  refine hK.out _ _ hS2 (fun hHeld3 => ?_)
  clear hK K
  (try simp only [Act.put, u1, u2, u3])
  have hS3 : (((z0.setCell ⟨w.heap.size, 0, none⟩ (.slice va RS.length vc)).setCell ⟨w.heap.size + 1, 0, none⟩ (.int .i64 SS)).setCell ⟨w.heap.size + 1 + 1, 0, none⟩ (.bool true)).cell? ⟨X, 0, none⟩ = some (.slice va RS.length vc) ∧ (((z0.setCell ⟨w.heap.size, 0, none⟩ (.slice va RS.length vc)).setCell ⟨w.heap.size + 1, 0, none⟩ (.int .i64 SS)).setCell ⟨w.heap.size + 1 + 1, 0, none⟩ (.bool true)).cell? ⟨X + 1, 0, none⟩ = some (.int .i64 SS) := ⟨(World.cell?_of_block (a := ⟨X, 0, none⟩) (heap_setCell_other _ _ _ _ (by show X ≠ w.heap.size + 1 + 1; omega))).trans hS2.1, (World.cell?_of_block (a := ⟨X + 1, 0, none⟩) (heap_setCell_other _ _ _ _ (by show X + 1 ≠ w.heap.size + 1 + 1; omega))).trans hS2.2⟩
  refine rk 4 rfl (fun K hK => ?_)
  go_simp
  refine hK.out _ _ hS3 (fun hHeld4 => ?_)
  clear hK K
  (try simp only [Act.put, u1, u2, u3])
  refine wpAnyH_done (by kernel_rfl) ?_ _
  have Z0 : Hid ((((z0.setCell ⟨w.heap.size, 0, none⟩ (.slice va RS.length vc)).setCell ⟨w.heap.size + 1, 0, none⟩ (.int .i64 SS)).setCell ⟨w.heap.size + 1 + 1, 0, none⟩ (.bool true)).heap[w.heap.size]? = some (.cells #[.slice va RS.length vc] 29 (0, 0))) := (heap_setCell_other _ _ _ _ (by show w.heap.size ≠ w.heap.size + 1 + 1; omega)).trans ((heap_setCell_other _ _ _ _ (by show w.heap.size ≠ w.heap.size + 1; omega)).trans (heap_setCell_same _ _ 0 _ _ _ HA0.out))
  have Z1 : Hid ((((z0.setCell ⟨w.heap.size, 0, none⟩ (.slice va RS.length vc)).setCell ⟨w.heap.size + 1, 0, none⟩ (.int .i64 SS)).setCell ⟨w.heap.size + 1 + 1, 0, none⟩ (.bool true)).heap[w.heap.size + 1]? = some (.cells #[.int .i64 SS] 2 (0, 0))) := (heap_setCell_other _ _ _ _ (by show w.heap.size + 1 ≠ w.heap.size + 1 + 1; omega)).trans (heap_setCell_same _ _ 0 _ _ _ ((heap_setCell_other _ _ _ _ (by show w.heap.size + 1 ≠ w.heap.size; omega)).trans HC0.out))
  have Z2 : Hid ((((z0.setCell ⟨w.heap.size, 0, none⟩ (.slice va RS.length vc)).setCell ⟨w.heap.size + 1, 0, none⟩ (.int .i64 SS)).setCell ⟨w.heap.size + 1 + 1, 0, none⟩ (.bool true)).heap[w.heap.size + 1 + 1]? = some (.cells #[.bool true] 4 (0, 0))) := heap_setCell_same _ _ 0 _ _ _ ((heap_setCell_other _ _ _ _ (by show w.heap.size + 1 + 1 ≠ w.heap.size + 1; omega)).trans ((heap_setCell_other _ _ _ _ (by show w.heap.size + 1 + 1 ≠ w.heap.size; omega)).trans HD0.out))
  have HKf : Hid ((((z0.setCell ⟨w.heap.size, 0, none⟩ (.slice va RS.length vc)).setCell ⟨w.heap.size + 1, 0, none⟩ (.int .i64 SS)).setCell ⟨w.heap.size + 1 + 1, 0, none⟩ (.bool true)).heap[D]? = some (.deferred (some []))) := (heap_setCell_other _ _ _ _ (by show D ≠ w.heap.size + 1 + 1; omega)).trans ((heap_setCell_other _ _ _ _ (by show D ≠ w.heap.size + 1; omega)).trans ((heap_setCell_other _ _ _ _ (by show D ≠ w.heap.size; omega)).trans HK0.out))
  have HBf : Hid (Below w.heap.size w (((z0.setCell ⟨w.heap.size, 0, none⟩ (.slice va RS.length vc)).setCell ⟨w.heap.size + 1, 0, none⟩ (.int .i64 SS)).setCell ⟨w.heap.size + 1 + 1, 0, none⟩ (.bool true))) := ((HBel.out.setCell (p := ⟨w.heap.size, 0, none⟩) (Nat.le_refl _) _).setCell (p := ⟨w.heap.size + 1, 0, none⟩) (by show _ ≤ w.heap.size + 1; omega) _).setCell (p := ⟨w.heap.size + 1 + 1, 0, none⟩) (by show _ ≤ w.heap.size + 1 + 1; omega) _
  have HRf : Hid ((((z0.setCell ⟨w.heap.size, 0, none⟩ (.slice va RS.length vc)).setCell ⟨w.heap.size + 1, 0, none⟩ (.int .i64 SS)).setCell ⟨w.heap.size + 1 + 1, 0, none⟩ (.bool true)).ownsRow (X + 1 + 1 + 1 + 1 + 1) 42 3 (.slice va RS.length vc) RS.length (rwCells RS)) := rowR_put (rowR_put (rowR_put HRow0.out (by omega)) (by omega)) (by omega)
  clear hS1 hS2 hS3 S0 g0 g1 g2 f0 f1 f2 HA0 HC0 HD0 HK0 HRow0 HBel HV0 HS0
  generalize (((z0.setCell ⟨w.heap.size, 0, none⟩ (.slice va RS.length vc)).setCell ⟨w.heap.size + 1, 0, none⟩ (.int .i64 SS)).setCell ⟨w.heap.size + 1 + 1, 0, none⟩ (.bool true)) = wf at Z0 Z1 Z2 HKf HBf HRf ⊢
  simp only [OnlyNormal]
  gi_wp2
  refine ⟨by simp, .inl ⟨_, _, rfl, run_takeDeferred HKf.out, ?_⟩⟩
  have hDl := (Array.getElem?_eq_some_iff.1 HKf.out).1
  have hbf : Below w.heap.size wf (wf.putObj D (.deferred none)) := belowK_b (w := w) (Nat.le_refl _) wf D _ _ (by omega) HKf.out rfl rfl
  have hrf : (wf.putObj D (.deferred none)).ownsRow (X + 1 + 1 + 1 + 1 + 1) 42 3 (.slice va RS.length vc) RS.length (rwCells RS) := by
   refine HRf.out.kept (row := some D) ⟨rfl, rfl, rfl, hbf.size, fun j _ hne => World.putObj_heap_other (fun e => hne (by rw [e]))⟩ ?_
   rcases hg : (Value.slice va RS.length vc).ownBlock with _ | g
   ·exact .inl rfl
   ·refine .inr fun e => ?_
    injection e with e
    subst e
    have := row_isCells HRf.out _ _ hg HKf.out
    cases this
  obtain ⟨ra, rc, e1, hown⟩ := ownRws_of_cells hrf (Nat.le_refl _)
  injection e1 with e1 _ e2
  subst e1 e2
  have q0 : (wf.putObj D (.deferred none)).cell? ⟨w.heap.size, 0, none⟩ = some (.slice va RS.length vc) := (World.cell?_of_block (a := ⟨w.heap.size, 0, none⟩) (World.putObj_heap_other (by show w.heap.size ≠ D; omega))).trans ((cell_of_row _ _ _ _ _ _ Z0.out).trans rfl)
  have q1 : (wf.putObj D (.deferred none)).cell? ⟨w.heap.size + 1, 0, none⟩ = some (.int .i64 SS) := (World.cell?_of_block (a := ⟨w.heap.size + 1, 0, none⟩) (World.putObj_heap_other (by show w.heap.size + 1 ≠ D; omega))).trans ((cell_of_row _ _ _ _ _ _ Z1.out).trans rfl)
  have q2 : (wf.putObj D (.deferred none)).cell? ⟨w.heap.size + 1 + 1, 0, none⟩ = some (.bool true) := (World.cell?_of_block (a := ⟨w.heap.size + 1 + 1, 0, none⟩) (World.putObj_heap_other (by show w.heap.size + 1 + 1 ≠ D; omega))).trans ((cell_of_row _ _ _ _ _ _ Z2.out).trans rfl)
  refine ⟨.tuple #[.slice va RS.length vc, .int .i64 SS, .bool true], by simp [results, Tryz.results7, go_sem, q0, q1, q2], va, vc, ?_, ?_, HBf.out.trans hbf⟩
  ·rw [HN1.out, HN2.out, HSS.out]
  ·rw [HN1.out]; exact hown.more (by omega) (Nat.le_refl _)
 case stop =>
  rintro D c pre W hD ⟨kk, hkk⟩ ⟨rfl, hX⟩ hK
  obtain ⟨y, hy1, hy2⟩ := hX.no
  rw [hkk] at hy1
  have hy3 : y ∈ openL l := by
   obtain ⟨hy4, hy5⟩ := List.mem_filter.1 hy1
   exact List.mem_filter.2 ⟨List.mem_of_mem_take hy4, hy5⟩
  obtain rfl : R = false := by
   rw [← HR.out, HBill.out]
   refine Bool.eq_false_iff.2 fun h => ?_
   have := List.all_eq_true.1 h y hy3
   rw [hy2] at this
   cases this
  have Z0 := Lib.hid hX.r0
  have Z1 := Lib.hid hX.r1
  have Z2 := Lib.hid hX.r2
  have HBf := Lib.hid hX.bel
  have HKf := Lib.hid hK
  have HN1 : Hid (billRs l ps os false = []) := rfl
  have HN2 : Hid (billSum l ps os false = 0) := rfl
  clear hX hy1 hy2 hy3 hkk hK
  gi_wp2
  refine ⟨by simp, .inl ⟨_, _, rfl, run_takeDeferred HKf.out, ?_⟩⟩
  have hbf : Below w.heap.size W (W.putObj D (.deferred none)) := belowK_b (w := w) (Nat.le_refl _) W D _ _ (by omega) HKf.out rfl rfl
  have q0 : (W.putObj D (.deferred none)).cell? ⟨w.heap.size, 0, none⟩ = some (.slice none 0 0) := (World.cell?_of_block (a := ⟨w.heap.size, 0, none⟩) (World.putObj_heap_other (by show w.heap.size ≠ D; omega))).trans ((cell_of_row _ _ _ _ _ _ Z0.out).trans rfl)
  have q1 : (W.putObj D (.deferred none)).cell? ⟨w.heap.size + 1, 0, none⟩ = some (.int .i64 0) := (World.cell?_of_block (a := ⟨w.heap.size + 1, 0, none⟩) (World.putObj_heap_other (by show w.heap.size + 1 ≠ D; omega))).trans ((cell_of_row _ _ _ _ _ _ Z1.out).trans rfl)
  have q2 : (W.putObj D (.deferred none)).cell? ⟨w.heap.size + 1 + 1, 0, none⟩ = some (.bool false) := (World.cell?_of_block (a := ⟨w.heap.size + 1 + 1, 0, none⟩) (World.putObj_heap_other (by show w.heap.size + 1 + 1 ≠ D; omega))).trans ((cell_of_row _ _ _ _ _ _ Z2.out).trans rfl)
  exact ⟨.tuple #[.slice none 0 0, .int .i64 0, .bool false], by simp [results, Tryz.results7, go_sem, q0, q1, q2], none, 0, rfl, own_noRw _ _ _ _, HBf.out.trans hbf⟩
end Go.Proofs.YtgagchlcafdiaaaGreat

namespace Go.Proofs.YtgagchlcafdiaaaGreat
set_option maxRecDepth 100000
open Go.RowKit
set_option linter.unusedVariables false
set_option linter.unusedSimpArgs false
set_option linter.unusedVariables false
set_option linter.unusedSimpArgs false

/-- What is paid of a line by the first k offers. -/
def paidUp (os : List OfV) (x : LnV) : Nat → Int
 | 0 => x.qty
 | k + 1 => if (atOf os k).item = x.item then paidZ x.qty (atOf os k).buy (atOf os k).free else paidUp os x k
theorem paidUp_no {os : List OfV} {x : LnV} : ∀ k, (∀ j, j < k → (atOf os j).item ≠ x.item) → paidUp os x k = x.qty
 | 0, _ => rfl
 | k + 1, h => by rw [paidUp, if_neg (h k (by omega))]; exact paidUp_no k (fun j hj => h j (by omega))
theorem paidUp_at {os : List OfV} {x : LnV} {i : Nat} (hi : (atOf os i).item = x.item) : ∀ k, i < k → (∀ j, j < k → j ≠ i → (atOf os j).item ≠ x.item) → paidUp os x k = paidZ x.qty (atOf os i).buy (atOf os i).free
 | 0, h, _ => absurd h (by omega)
 | k + 1, h, hn => by
  rw [paidUp]
  by_cases e : i = k
  ·subst e; rw [if_pos hi]
  ·rw [if_neg (hn k (by omega) (fun e2 => e e2.symm))]; exact paidUp_at hi k (by omega) (fun j hj => hn j (by omega))
theorem paidUp_all {os : List OfV} {x : LnV} (h : OfsB os = true) : paidUp os x os.length = qtyPaid os x := by
 have hi := incOf_of h
 have this := offer_is os x.item
 unfold qtyPaid
 cases hf : findO os x.item with
 | none =>
  rw [hf] at this
  rcases this with ⟨e, _⟩ | ⟨_, _, hn⟩
  ·cases e
  ·exact paidUp_no _ hn
 | some o =>
  rw [hf] at this
  rcases this with ⟨_, i, h1, h2, h3⟩ | ⟨e, _⟩
  ·have h3 : o = atOf os i := h3
   subst h3
   refine paidUp_at h2 _ h1 (fun j hj hne e => ?_)
   rcases Nat.lt_or_gt_of_ne hne with g | g
   ·have := incOf_lt hi i j g h1
    rw [e, h2, ltS_irr] at this
    cases this
   ·have := incOf_lt hi j i g hj
    rw [e, h2, ltS_irr] at this
    cases this
  ·cases e
theorem rw_empty (w : World) : (w.alloc (.cells #[] 42)).ownsRow w.heap.size 42 3 (.slice (some ⟨w.heap.size, 0, none⟩) 0 0) 0 [] := World.ownsRow_made w #[] 0 (Nat.le_refl _) (by unfold maxLen; omega) rfl
theorem row_below {W W' : World} {B base n : Nat} {v : Value} {xs : List Value} (h : W.ownsRow base 42 3 v n xs) (hb : Below W.heap.size W W') : W'.ownsRow base 42 3 v n xs := by
 refine h.kept (row := none) (below_grown hb) ?_
 rcases hv : v.ownBlock with _ | g
 ·exact .inl rfl
 ·exact .inr (fun e => by cases e)
theorem open_bad {l : List LnV} {ps : List PrV} {k : Nat} (hk : k < l.length) (hs : (atLn l k).saved = false) (hp : hasP ps (atLn l k) = false) : (openL l).all (hasP ps) = false := by
 refine Bool.eq_false_iff.2 fun h => ?_
 have hm : atLn l k ∈ l := by
  unfold atLn
  rw [List.getD_eq_getElem?_getD, List.getElem?_eq_getElem hk]
  exact List.getElem_mem hk
 have := List.all_eq_true.1 h (atLn l k) (List.mem_filter.2 ⟨hm, by rw [hs]; rfl⟩)
 rw [hp] at this
 cases this
theorem opwp_appendB {P : Program} {o : Oper} {a : Act} {w : World} {K : Act → World → Prop} {Q : Exit → Act → World → Prop} (x y : Operand) (ts : Array TypeId) (hop : o.op = Op.call { callee := Callee.builtin Builtin.append, args := #[x, y], argTypes := ts }) (v1 v2 : Value) {v' : Value} {w' : World} (h1 : a.eval x = v1) (h2 : a.eval y = v2)
  (hrun : (Builtin.append_ ts o.type #[v1, v2]).run P w = .ok v' w') (hK : K (a.put o.dst v') w') : Oper.wp P o a w K Q := by
 unfold Oper.wp
 simp [execOp, hop, resolve, invoke, builtin, h1, h2, hrun, Result.andThen]
 exact hK
theorem open_ok {l : List LnV} (h : LnsB l = true) {k : Nat} : ∀ y, y ∈ openL (l.take k) → y.ok = true := fun y hy => by
 have hy2 := List.mem_of_mem_take (List.mem_filter.1 hy).1
 obtain ⟨i, hi, e⟩ := List.mem_iff_getElem.1 hy2
 have := (lns_parts h).1 i hi
 unfold atLn at this
 rw [List.getD_eq_getElem?_getD, List.getElem?_eq_getElem hi] at this
 rw [← e]
 exact this
set_option maxHeartbeats 40000000 in
theorem specBill (w : World) (B : Nat) (la pa oa : Option Addr) (ln lc pn pc on oc : Nat) (l : List LnV) (ps : List PrV) (os : List OfV) (hl : Lns w B la ln l) (hp : Prs w B pa pn ps) (ho : Ofs w B oa on os) (hB : B ≤ w.heap.size) (hln : ln ≤ 1048576) (hpn : pn ≤ 1048576) (hon : on ≤ 1048576) (hm : ∀ i, i < ln → (atLn l i).item.size ≤ 1048576) (hmp : ∀ i, i < pn → (atPr ps i).item.size ≤ 1048576) (hmo : ∀ i, i < on → (atOf os i).item.size ≤ 1048576) :
  Calls Tryz.prog 8 #[.slice la ln lc, .slice pa pn pc, .slice oa on oc] w (BillPost (billB l ps os) (billRs l ps os (billB l ps os)) (billSum l ps os (billB l ps os)) w) := by
 have HLn := Lib.hid (hl.more hB)
 have HPr := Lib.hid (hp.more hB)
 have HOf := Lib.hid (ho.more hB)
 have HM := Lib.hid hm
 have HMp := Lib.hid hmp
 have HMo := Lib.hid hmo
 have HLl : Hid (l.length = ln) := hl.1
 have HOl : Hid (os.length = on) := ho.1
 obtain ⟨R, hR⟩ : ∃ R, billB l ps os = R := ⟨_, rfl⟩
 have HR := Lib.hid hR
 rw [hR]
 clear hl hp ho hB hm hmp hmo hR
 go_enter Tryz.func8, Tryz.ntmps8
 go_wp2_with fail
 have HB1 : Hid (Below w.heap.size w (w.alloc (.cells #[] 42))) := (Below.refl _ w).alloc (Nat.le_refl _) _
 have HO1 := Lib.hid (rw_empty w)
 have hs1 := HB1.out.size
 generalize w.alloc (.cells #[] 42) = w1 at HB1 HO1 hs1 ⊢
 refine (specLnsOk w1 w.heap.size la ln lc l (HLn.out.below HB1.out (Nat.le_refl _)) hln HM.out).mono ?_
 rintro e w2 ⟨rfl, hb⟩
 have HB2 := Lib.hid (HB1.out.trans (hb.mono HB1.out.size))
 have HO2 := Lib.hid (row_below (B := 0) HO1.out hb)
 have hs2 := HB2.out.size
 clear hb HB1 HO1
 obtain ⟨b1, hb1⟩ : ∃ b, LnsB l = b := ⟨_, rfl⟩
 have HVL := Lib.hid hb1
 rw [hb1]
 clear hb1
 cases b1
 ·skip
  obtain rfl : R = false := by rw [← HR.out]; exact bill_1 HVL.out
  go_wp2
  exact bodyPost_ret (v := .tuple #[.slice none 0 0, .int .i64 0, .bool false]) (by simp [results, Tryz.results8, go_sem]) rfl ⟨none, 0, rfl, own_noRw _ _ _ _, HB2.out⟩
 go_wp2_with fail
 refine (specPrsOk w2 w.heap.size pa pn pc ps (HPr.out.below HB2.out (Nat.le_refl _)) hpn HMp.out).mono ?_
 rintro e w3 ⟨rfl, hb⟩
 have HB3 := Lib.hid (HB2.out.trans (hb.mono HB2.out.size))
 have HO3 := Lib.hid (row_below (B := 0) HO2.out hb)
 have hs3 := HB3.out.size
 clear hb HB2 HO2
 obtain ⟨b2, hb2⟩ : ∃ b, PrsB ps = b := ⟨_, rfl⟩
 have HVP := Lib.hid hb2
 rw [hb2]
 clear hb2
 cases b2
 ·skip
  obtain rfl : R = false := by rw [← HR.out]; exact bill_2 HVP.out
  go_wp2
  exact bodyPost_ret (v := .tuple #[.slice none 0 0, .int .i64 0, .bool false]) (by simp [results, Tryz.results8, go_sem]) rfl ⟨none, 0, rfl, own_noRw _ _ _ _, HB3.out⟩
 go_wp2_with fail
 refine (specOfsOk w3 w.heap.size oa on oc os (HOf.out.below HB3.out (Nat.le_refl _)) (by omega) hon HMo.out).mono ?_
 rintro e w4 ⟨rfl, hb⟩
 have HB4 := Lib.hid (HB3.out.trans (hb.mono HB3.out.size))
 have HO4 := Lib.hid (row_below (B := 0) HO3.out hb)
 have hs4 := HB4.out.size
 clear hb HB3 HO3
 obtain ⟨b3, hb3⟩ : ∃ b, OfsB os = b := ⟨_, rfl⟩
 have HVO := Lib.hid hb3
 rw [hb3]
 clear hb3
 cases b3
 ·skip
  obtain rfl : R = false := by rw [← HR.out]; exact bill_3 HVO.out
  go_wp2
  exact bodyPost_ret (v := .tuple #[.slice none 0 0, .int .i64 0, .bool false]) (by simp [results, Tryz.results8, go_sem]) rfl ⟨none, 0, rfl, own_noRw _ _ _ _, HB4.out⟩
 have HBill := Lib.hid (bill_4 HVL.out HVP.out HVO.out)
 go_wp2
 go_loopw [9, 10, 11] (fun v s i wr => ∃ (k : Nat) (vv : Value), k ≤ ln ∧ vv = v ∧ i = .int .i64 (k : Int) ∧ s = .int .i64 (sumR (rowsV ps os (l.take k))) ∧ Hid (wr.ownsRow w.heap.size 42 3 vv (openL (l.take k)).length (rwCells (rowsV ps os (l.take k)))) ∧ Hid (∀ x, x ∈ openL (l.take k) → hasP ps x = true) ∧ Hid (Below w.heap.size w wr)) (fun _ _ i _ => ln - (intOf i).toNat)
 case atStart => exact ⟨0, _, Nat.zero_le _, rfl, rfl, rfl, HO4.out, fun x hx => absurd hx (by simp [openL]), HB4.out⟩
 case round =>
  obtain ⟨k, v, hk, rfl, rfl, rfl, HOw, HHs, HBr⟩ := hrel
  have hsr := HBr.out.size
  by_cases hlt : k < ln
  rotate_left
  ·obtain rfl : k = ln := by omega
   have ht : l.take k = l := List.take_of_length_le (by rw [HLl.out]; exact Nat.le_refl _)
   obtain rfl : R = true := by rw [← HR.out, HBill.out]; exact List.all_eq_true.2 (fun z hz => HHs.out z (by rw [ht]; exact hz))
   have hki : ¬ (k : Int) < (k : Int) := by omega
   have HT := Lib.hid ht
   have HOw2 : Hid (wr.ownsRow w.heap.size 42 3 v (rowsV ps os l).length (rwCells (rowsV ps os l))) := by
    have h := HOw.out
    rw [ht] at h
    show wr.ownsRow w.heap.size 42 3 v (rowsV ps os l).length (rwCells (rowsV ps os l))
    unfold rowsV at h ⊢
    rw [List.length_map]
    exact h
   rw [ht]
   clear ht
   go_wp2
   obtain ⟨ra, rc, rfl, how⟩ := ownRws_of_cells HOw2.out (Nat.le_refl _)
   exact bodyPost_ret (v := .tuple #[.slice ra (rowsV ps os l).length rc, .int .i64 (sumR (rowsV ps os l)), .bool true]) (by simp [results, Tryz.results8, go_sem]) rfl ⟨ra, rc, rfl, how, HBr.out⟩
  have hki : (k : Int) < (ln : Int) := by omega
  have hk0 : (0 : Int) ≤ (k : Int) := by omega
  obtain ⟨b, off, hla, hbB, hat⟩ := HLn.out.2 k hlt
  subst hla
  have HOx := Lib.hid ((lns_parts HVL.out).1 k (by rw [HLl.out]; exact hlt))
  have HIx := Lib.hid (HM.out k hlt)
  have HSn := Lib.hid (rowsV_snoc (ps := ps) (os := os) (l := l) (k := k) (by rw [HLl.out]; exact hlt))
  have HSo := Lib.hid (openL_snoc (l := l) (k := k) (by rw [HLl.out]; exact hlt))
  have HBd := Lib.hid (open_bad (l := l) (ps := ps) (k := k) (by rw [HLl.out]; exact hlt))
  have hat : LnAt w b (off + k * 3) (atLn l k) := hat
  generalize atLn l k = x at hat HOx HIx HSn HSo HBd
  have hatr := hat.kept (HBr.out.block b hbB)
  have HAt := Lib.hid hat
  obtain ⟨d0, d1, d2⟩ := hatr
  obtain ⟨sv, hsv⟩ : ∃ sv, x.saved = sv := ⟨_, rfl⟩
  have HSv := Lib.hid hsv
  rw [hsv] at d2
  clear hsv hat
  cases sv
  rotate_left
  ·have HR1 : Hid (rowsV ps os (l.take (k + 1)) = rowsV ps os (l.take k)) := HSn.out.trans (if_pos HSv.out)
   have HO2 : Hid (openL (l.take (k + 1)) = openL (l.take k)) := HSo.out.trans (if_pos HSv.out)
   go_wp2
   exact ⟨⟨k + 1, v, by omega, rfl, by go_num, by rw [HR1.out], by show wr.ownsRow _ _ _ _ _ _; rw [HR1.out, HO2.out]; exact HOw.out, by show ∀ y, _; rw [HO2.out]; exact HHs.out, HBr⟩, by simp [intOf]; omega⟩
  go_wp2_with fail
  refine (specPriceOf wr w.heap.size pa pn pc ps x.item (HPr.out.below HBr.out (Nat.le_refl _)) (by omega) hpn HMp.out).mono ?_
  rintro e wp ⟨hpp, hb⟩
  obtain ⟨op, bb, rfl, hpi⟩ : ∃ (o : PrV) (b : Bool), e = .returned (.tuple #[.int .i64 o.cents, .bool b]) ∧ PriceIs ps x.item o b := by
   rcases hpp with ⟨_, h⟩ | ⟨h, _⟩
   ·exact h
   ·rw [HVP.out] at h; cases h
  obtain ⟨hO, hb2⟩ := price_val (prs_parts HVP.out).2.1 hpi
  have hct : op.cents = centsOf ps x.item := by rw [hO]; rfl
  have hbb : bb = hasP ps x := hb2
  rw [hct]
  clear hpp hpi hO hb2 hct d0 d1 d2
  have HBp := Lib.hid (HBr.out.trans (hb.mono hsr))
  have HOp := Lib.hid (row_below (B := 0) HOw.out hb)
  have hsp := HBp.out.size
  have HPp := Lib.hid hbb
  clear hb hbb HBr HOw
  cases bb
  ·obtain rfl : R = false := by rw [← HR.out, HBill.out]; exact HBd.out HSv.out HPp.out.symm
   go_wp2
   exact bodyPost_ret (v := .tuple #[.slice none 0 0, .int .i64 0, .bool false]) (by simp [results, Tryz.results8, go_sem]) rfl ⟨none, 0, rfl, own_noRw _ _ _ _, HBp.out⟩
  obtain ⟨d0, d1, d2⟩ := HAt.out.kept (HBp.out.block b hbB)
  go_wp2
  go_loopw [14, 15] (fun pd q wi => ∃ j : Nat, j ≤ on ∧ q = .int .i64 (j : Int) ∧ pd = .int .i64 (paidUp os x j) ∧ Hid (wi.ownsRow w.heap.size 42 3 v (openL (l.take k)).length (rwCells (rowsV ps os (l.take k)))) ∧ Hid (Below w.heap.size w wi)) (fun _ q _ => on - (intOf q).toNat)
  case atStart => exact ⟨0, Nat.zero_le _, rfl, rfl, HOp, HBp⟩
  case round =>
   obtain ⟨j, hj, rfl, rfl, HOi, HBi⟩ := hrel
   have hsi := HBi.out.size
   obtain ⟨d0, d1, d2⟩ := HAt.out.kept (HBi.out.block b hbB)
   by_cases hjl : j < on
   rotate_left
   ·obtain rfl : j = on := by omega
    have hji : ¬ (j : Int) < (j : Int) := by omega
    have HPd : Hid (paidUp os x j = qtyPaid os x) := by show _ = _; rw [← HOl.out]; exact paidUp_all HVO.out
    rw [HPd.out]
    clear d0 d1 d2
    have hT : openL (l.take (k + 1)) = openL (l.take k) ++ [x] := HSo.out.trans (if_neg (by rw [HSv.out]; decide))
    have hT2 : rowsV ps os (l.take (k + 1)) = rowsV ps os (l.take k) ++ [rowV ps os x] := HSn.out.trans (if_neg (by rw [HSv.out]; decide))
    have HT := Lib.hid hT
    have HT2 := Lib.hid hT2
    have HSu : Hid (sumR (rowsV ps os (l.take (k + 1))) = sumR (rowsV ps os (l.take k)) + centsOf ps x.item * qtyPaid os x) := by show _ = _; rw [hT2]; exact sumR_snoc _ _
    have hlen : (openL (l.take k)).length ≤ 200 := Nat.le_trans (openL_len _) (Nat.le_trans (List.length_take_le' _ _) (lns_parts HVL.out).2)
    have hsum : 0 ≤ sumR (rowsV ps os (l.take k)) ∧ sumR (rowsV ps os (l.take k)) ≤ 999000000 * ((openL (l.take k)).length : Int) := sum_le HVP.out HVO.out _ (open_ok HVL.out)
    have hrl : 0 ≤ centsOf ps x.item * qtyPaid os x ∧ centsOf ps x.item * qtyPaid os x ≤ 999000000 := row_le HVP.out HVO.out HOx.out
    have hcm : qtyPaid os x * centsOf ps x.item = centsOf ps x.item * qtyPaid os x := Int.mul_comm _ _
    have hw1 : IntKind.i64.wrap (qtyPaid os x * centsOf ps x.item) = centsOf ps x.item * qtyPaid os x := by rw [hcm]; exact IntWalk.i64_in _ (by omega)
    have hw2 : IntKind.i64.wrap (sumR (rowsV ps os (l.take k)) + centsOf ps x.item * qtyPaid os x) = sumR (rowsV ps os (l.take k)) + centsOf ps x.item * qtyPaid os x := IntWalk.i64_in _ (by omega)
    obtain ⟨z0, hz0e⟩ : ∃ z0, wr.drew = z0 := ⟨_, rfl⟩
    have t0 : Below wr.heap.size wr z0 := by rw [← hz0e]; exact ⟨rfl, rfl, rfl, Nat.le_refl _, fun _ _ => rfl⟩
    have hown0 := row_below (B := 0) HOi.out t0
    have HBz := Lib.hid (HBi.out.trans (t0.mono hsi))
    have hsz := HBz.out.size
    obtain ⟨v2, w2, hrun, hrow2, hb2, hg2⟩ := appRw z0 w.heap.size v _ _ hown0 (rowV ps os x) (by omega) hsz
    have hrun : (Builtin.append_ #[29, 29] 29 #[v, .slice (some ⟨z0.heap.size, 0, none⟩) 1 1]).run Tryz.prog (z0.alloc (.cells #[.string x.item, .int .i64 x.qty, .int .i64 (centsOf ps x.item * qtyPaid os x)] 42)) = .ok v2 w2 := hrun
    obtain ⟨c0, c1, c2⟩ := HAt.out.kept (HBz.out.block b hbB)
    have S0 : z0.cell? ⟨b, off + k * 3, none⟩ = some (.string x.item) ∧ z0.cell? ⟨b, off + k * 3 + 1, none⟩ = some (.int .i64 x.qty) := ⟨c0, c1⟩
    have hal : Below w.heap.size z0 (z0.alloc (.cells #[.string x.item, .int .i64 x.qty, .int .i64 (centsOf ps x.item * qtyPaid os x)] 42)) := (Below.refl _ _).alloc hsz _
    have S1 : (z0.alloc (.cells #[.string x.item, .int .i64 x.qty, .int .i64 (centsOf ps x.item * qtyPaid os x)] 42)).cell? ⟨b, off + k * 3, none⟩ = some (.string x.item) ∧ (z0.alloc (.cells #[.string x.item, .int .i64 x.qty, .int .i64 (centsOf ps x.item * qtyPaid os x)] 42)).cell? ⟨b, off + k * 3 + 1, none⟩ = some (.int .i64 x.qty) := ⟨(World.cell?_of_block (a := ⟨b, off + k * 3, none⟩) (hal.block b hbB)).trans c0, (World.cell?_of_block (a := ⟨b, off + k * 3 + 1, none⟩) (hal.block b hbB)).trans c1⟩
    have S2 : w2.cell? ⟨b, off + k * 3, none⟩ = some (.string x.item) ∧ w2.cell? ⟨b, off + k * 3 + 1, none⟩ = some (.int .i64 x.qty) := ⟨(World.cell?_of_block (a := ⟨b, off + k * 3, none⟩) (hb2.block b hbB)).trans c0, (World.cell?_of_block (a := ⟨b, off + k * 3 + 1, none⟩) (hb2.block b hbB)).trans c1⟩
    have HB2 := Lib.hid (HBz.out.trans hb2)
    have HR2 := Lib.hid hrow2
    clear hT hT2 hsum hrl hcm t0 hown0 hb2 hrow2 hg2 c0 c1 c2 hal
    generalize sumR (rowsV ps os (l.take k)) = SS at hw2 HSu ⊢
    go_wp2_with fail
    refine wp_region_held_drew (S := fun w' => w'.cell? ⟨b, off + k * 3, none⟩ = some (.string x.item) ∧ w'.cell? ⟨b, off + k * 3 + 1, none⟩ = some (.int .i64 x.qty)) (by kernel_rfl) (by rw [hz0e]; exact S0) (fun hHeld => ?_)
    rw [hz0e]
    clear hHeld hz0e
    refine tj 0 ?_
    refine tj 1 ?_
    refine tj 2 ?_
    refine tj 3 ?_
    refine tj 4 ?_
    refine tj 5 ?_
    refine tj 6 ?_
    refine tj 7 ?_
    refine tj 8 ?_
    refine tj 9 ?_
    refine tj 10 ?_
    refine tj 11 ?_
    refine tj 12 ?_
    refine tj 13 ?_
    refine tj 14 ?_
    refine rk 15 rfl (fun K hK => ?_)
    go_simp
    refine hK.out _ _ S1 (fun hHeld4 => ?_)
    clear hK K
    (try simp only [Act.put, u1, u2, u3])
    refine rk 16 rfl (fun K hK => ?_)
    rw [if_pos (by rfl)]
    refine opwp_appendB _ _ _ rfl _ _ rfl rfl hrun ?_
    refine hK.out _ _ S2 (fun hHeld8 => ?_)
    clear hK K
    (try simp only [Act.put, u1, u2, u3])
    refine tj 17 ?_
    refine wpAnyH_done (by kernel_rfl) ?_ _
    go_wp2
    exact ⟨⟨k + 1, v2, by omega, rfl, by go_num, by rw [HSu.out], by show w2.ownsRow _ _ _ _ _ _; rw [HT.out, HT2.out, List.length_append]; exact HR2.out, by
     show ∀ y, _
     rw [HT.out]
     intro y hy
     rcases List.mem_append.1 hy with hy | hy
     ·exact HHs.out y hy
     ·rw [List.mem_singleton.1 hy]; exact HPp.out.symm, HB2⟩, by simp [intOf]; omega⟩
   have hji : (j : Int) < (on : Int) := by omega
   have hj0 : (0 : Int) ≤ (j : Int) := by omega
   obtain ⟨ob, ooff, hoa, hobB, hot⟩ := HOf.out.2 j hjl
   subst hoa
   have hot : OfAt w ob (ooff + j * 3) (atOf os j) := hot
   have hok := of_ok ((ofs_parts HVO.out).1 j (by rw [HOl.out]; exact hjl))
   have HUp : Hid (paidUp os x (j + 1) = if (atOf os j).item = x.item then paidZ x.qty (atOf os j).buy (atOf os j).free else paidUp os x j) := rfl
   have hln2 := ln_ok HOx.out
   have HIy := Lib.hid (HMo.out j hjl)
   generalize atOf os j = y at hot hok HUp HIy
   have HOt := Lib.hid hot
   obtain ⟨g1, g2, g3, g4⟩ := hok
   obtain ⟨q0, q1, q2⟩ := hot.kept (HBi.out.block ob hobB)
   clear hot
   by_cases he : y.item = x.item
   rotate_left
   ·have heq : (y.item.toList == x.item.toList) = false := by rw [str_eqP]; exact decide_eq_false he
    have HU : Hid (paidUp os x (j + 1) = paidUp os x j) := HUp.out.trans (if_neg he)
    clear he
    go_wp2_with fail
    go_quiet (fail)
    go_wp2
    exact ⟨⟨j + 1, by omega, by go_num, by rw [HU.out], HOi, HBi.out.trans ⟨rfl, rfl, rfl, Nat.le_refl _, fun _ _ => rfl⟩⟩, by simp [intOf]; omega⟩
   have heq : (y.item.toList == x.item.toList) = true := by rw [str_eqP]; exact decide_eq_true he
   have HU : Hid (paidUp os x (j + 1) = paidZ x.qty y.buy y.free) := HUp.out.trans (if_pos he)
   clear he
   generalize paidUp os x j = pu
   go_wp2_with fail
   go_quiet (fail)
   obtain ⟨z0, hz0e⟩ : ∃ z0, (wr.drewN nq).drew = z0 := ⟨_, rfl⟩
   have t0 : Below wr.heap.size wr z0 := by rw [← hz0e]; exact ⟨rfl, rfl, rfl, Nat.le_refl _, fun _ _ => rfl⟩
   have hO0 := row_below (B := 0) HOi.out t0
   have HBz := Lib.hid (HBi.out.trans (t0.mono hsi))
   have hsz := HBz.out.size
   obtain ⟨c0, c1, c2⟩ := HAt.out.kept (HBz.out.block b hbB)
   obtain ⟨e0, e1, e2⟩ := HOt.out.kept (HBz.out.block ob hobB)
   have S0 : z0.cell? ⟨b, off + k * 3 + 1, none⟩ = some (.int .i64 x.qty) ∧ z0.cell? ⟨ob, ooff + j * 3, none⟩ = some (.string y.item) ∧ z0.cell? ⟨ob, ooff + j * 3 + 1, none⟩ = some (.int .i64 y.buy) ∧ z0.cell? ⟨ob, ooff + j * 3 + 2, none⟩ = some (.int .i64 y.free) := ⟨c1, e0, e1, e2⟩
   clear q0 q1 q2 d0 d1 d2 c0 c1 c2 e0 e1 e2 t0
   have hyi := HIy.out
   go_wp2_with fail
   refine wp_region_held_drew (S := fun w' => w'.cell? ⟨b, off + k * 3 + 1, none⟩ = some (.int .i64 x.qty) ∧ w'.cell? ⟨ob, ooff + j * 3, none⟩ = some (.string y.item) ∧ w'.cell? ⟨ob, ooff + j * 3 + 1, none⟩ = some (.int .i64 y.buy) ∧ w'.cell? ⟨ob, ooff + j * 3 + 2, none⟩ = some (.int .i64 y.free)) (by kernel_rfl) (by rw [hz0e]; exact S0) (fun hHeld => ?_)
   rw [hz0e]
   clear hHeld hz0e
   refine tj 0 ?_
   refine tj 1 ?_
   refine tj 2 ?_
   refine tj 3 ?_
   refine tj 4 ?_
   refine tj 5 ?_
   refine tj 6 ?_
   refine tj 7 ?_
   refine tj 8 ?_
   refine rk 9 rfl (fun K hK => ?_)
   go_simp
   go_at_call 26
   refine (l12Paid y.item x.qty y.buy y.free _ (by omega) (by omega) g1 g2 g3 g4).mono ?_
   rintro e w3 ⟨rfl, hb3⟩
   refine hK.out _ _ ⟨(hb3.cell (block_lt_of_cell S0.1)).trans S0.1, (hb3.cell (block_lt_of_cell S0.2.1)).trans S0.2.1, (hb3.cell (block_lt_of_cell S0.2.2.1)).trans S0.2.2.1, (hb3.cell (block_lt_of_cell S0.2.2.2)).trans S0.2.2.2⟩ (fun hHeld4 => ?_)
   clear hK K
   (try simp only [Act.put, u1, u2, u3])
   refine tj 10 ?_
   refine wpAnyH_done (by kernel_rfl) ?_ _
   have HO3 := row_below (B := 0) hO0 hb3
   have HB3 := Lib.hid (HBz.out.trans (hb3.mono hsz))
   clear hO0 hb3 S0
   go_wp2
   exact ⟨⟨j + 1, by omega, by go_num, by rw [HU.out], HO3, HB3⟩, by simp [intOf]; omega⟩
end Go.Proofs.YtgagchlcafdiaaaGreat
