/- Walks and mathematics that several claims share, part 46. -/
import Derived.Test.YtgagchlcafdiaaaGreatGb45
import Derived.Test.YtgagchlcafdiaaaGreatGb14
import Derived.Test.YtgagchlcafdiaaaGreatGb16
import Derived.Deep.Cut
import Derived.Test.YtgagchlcafdiaaaGreatGbA
namespace Go.Proofs.YtgagchlcafdiaaaGreat
set_option maxRecDepth 100000
open Go.RowKit Go.Shelf
attribute [local go_sem] Oper.semAt_some
set_option linter.unusedVariables false
set_option linter.unusedSimpArgs false

theorem billRows (la pa oa : Option Addr) (ln lc pn pc on oc : Nat) (w : World) (n : Nat) :
  CallsIn Fence.wide n Tryz.prog 23 #[.slice la ln lc, .slice pa pn pc, .slice oa on oc] w fun e w' => e = .returned (.func (.func 47) #[] #[.pointer (some ⟨w.heap.size, 0, none⟩), .pointer (some ⟨w.heap.size + 1, 0, none⟩), .pointer (some ⟨w.heap.size + 1 + 1, 0, none⟩)]) ∧ w' = ((w.alloc (.cells #[.slice la ln lc] 24)).alloc (.cells #[.slice pa pn pc] 25)).alloc (.cells #[.slice oa on oc] 26) := by
 refine callsIn_of_wp Tryz.func23 rfl trivial ?_ rfl
 simp only [Tryz.ntmps23, List.size_toArray, List.length_cons, List.length_nil, Nat.reduceAdd, Nat.reduceSub, Array.replicate_succ, Array.replicate_zero, List.push_toArray, List.append_toArray, List.nil_append, List.cons_append]
 gi_wp2
 go_ret
 exact ⟨by simp [World.alloc], rfl⟩
/-- How the iterator ends: a row for each line that is not saved has come, or a round has said that it wants no more. -/
def BrPost (l : List LnV) (J Jx : List LnV → World → Prop) (e : Ending) (W' : World) : Prop :=
 (∃ v, e = .returned v) ∧ ((∃ ys, ys = openL l ∧ J ys W') ∨ (∃ pre : List LnV, (∃ k, pre = openL (l.take k)) ∧ Jx pre W'))
theorem br_all {l : List LnV} {J Jx : List LnV → World → Prop} {v : Value} {W' : World} (hJ : J (openL l) W') : BrPost l J Jx (.returned v) W' := ⟨⟨_, rfl⟩, .inl ⟨_, rfl, hJ⟩⟩
theorem br_stop {l : List LnV} {J Jx : List LnV → World → Prop} {v : Value} {W' : World} (pre : List LnV) (hp : ∃ k, pre = openL (l.take k)) (hJ : Jx pre W') : BrPost l J Jx (.returned v) W' := ⟨⟨_, rfl⟩, .inr ⟨pre, hp, hJ⟩⟩
theorem openL_lt {l : List LnV} {k : Nat} (hk : k < l.length) : (openL (l.take k)).length < l.length := by
 have := openL_len (l.take k)
 have := List.length_take_le k l
 omega
/-- What a round of the loop over the iterator keeps: what lies below n₀, and two boxes. -/
def KB (n₀ bp bo : Nat) (W W' : World) : Prop := Below n₀ W W' ∧ W'.heap[bp]? = W.heap[bp]? ∧ W'.heap[bo]? = W.heap[bo]?
theorem KB.trans {n₀ bp bo : Nat} {A B C : World} (h : KB n₀ bp bo A B) (k : KB n₀ bp bo B C) : KB n₀ bp bo A C := ⟨h.1.trans k.1, k.2.1.trans h.2.1, k.2.2.trans h.2.2⟩
set_option maxHeartbeats 40000000 in
theorem billRows1 (n : Nat) (hn : 1 ≤ n) (lp bl bp bo n₀ : Nat) (la pa oa : Option Addr) (ln lc pn pc on oc : Nat) (l : List LnV) (ps : List PrV) (os : List OfV) (hvl : LnsB l = true) (hvp : PrsB ps = true) (hvo : OfsB os = true) (hm : ∀ i, i < ln → (atLn l i).item.size ≤ 1048576) (hln : ln ≤ 1048576) (hpn : pn ≤ 1048576) (hon : on ≤ 1048576)
  (J Jx : List LnV → World → Prop) (hJ : ∀ s W W', J s W → W.grownBy W' none → J s W')
  (hY : ∀ pre x W, J pre W → pre.length < l.length → x.ok = true → YieldAt Fence.wide (n - 1) Tryz.prog lp #[.agg #[.string x.item, .int .i64 x.qty, .int .i64 (centsOf ps x.item * qtyPaid os x)], .bool (hasP ps x)] W fun e W' => (e = .returned (.bool true) ∧ J (pre ++ [x]) W' ∧ KB n₀ bp bo W W') ∨ (e = .returned (.bool false) ∧ Jx (pre ++ [x]) W'))
  (W : World) (h1 : W.heap[bl]? = some (.cells #[.slice la ln lc] 24 (0, 0))) (h2 : W.heap[bp]? = some (.cells #[.slice pa pn pc] 25 (0, 0))) (h3 : W.heap[bo]? = some (.cells #[.slice oa on oc] 26 (0, 0))) (hl : Lns W n₀ la ln l) (hp : Prs W n₀ pa pn ps) (ho : Ofs W n₀ oa on os) (hn₀ : n₀ ≤ W.heap.size) (h0 : J [] W) :
  CallsIn Fence.wide n Tryz.prog 47 #[.func (.yield lp) #[] #[], .pointer (some ⟨bl, 0, none⟩), .pointer (some ⟨bp, 0, none⟩), .pointer (some ⟨bo, 0, none⟩)] W (BrPost l J Jx) := by
 have H1 := Lib.hid h1
 have H2 := Lib.hid h2
 have H3 := Lib.hid h3
 have HLn := Lib.hid hl
 have HPr := Lib.hid hp
 have HOf := Lib.hid ho
 have HL := Lib.hid hl.1
 have HJ := Lib.hid hJ
 have HY := Lib.hid hY
 have H0 := Lib.hid h0
 have HM := Lib.hid hm
 have HVL := Lib.hid hvl
 have HVP := Lib.hid hvp
 have HVO := Lib.hid hvo
 have HInc := Lib.hid (prs_parts hvp).2.1
 have c0 : W.cell? ⟨bl, 0, none⟩ = some (.slice la ln lc) := (cell_of_row _ _ _ _ _ _ h1).trans rfl
 clear hl hp ho h1 h2 h3 hJ hY h0 hm hvl hvp hvo
 refine callsIn_of_wp Tryz.func47 rfl trivial ?_ rfl
 simp only [Tryz.ntmps47, List.size_toArray, List.length_cons, List.length_nil, Nat.reduceAdd, Nat.reduceSub, Array.replicate_succ, Array.replicate_zero, List.push_toArray, List.append_toArray, List.nil_append, List.cons_append]
 gi_wp2
 clear c0
 gi_loopw [12] (fun i wr => ∃ k : Nat, k ≤ ln ∧ i = .int .i64 k ∧ Hid (J (openL (l.take k)) wr) ∧ Hid (Below n₀ W wr) ∧ Hid (wr.heap[bp]? = some (.cells #[.slice pa pn pc] 25 (0, 0))) ∧ Hid (wr.heap[bo]? = some (.cells #[.slice oa on oc] 26 (0, 0)))) (fun i _ => ln - (intOf i).toNat)
 case atStart => exact ⟨0, Nat.zero_le _, rfl, H0, Below.refl _ _, H2, H3⟩
 case round =>
  obtain ⟨k, hk, rfl, HJs, HBr, HWp, HWo⟩ := hrel
  have hpl := (Array.getElem?_eq_some_iff.1 HWp.out).1
  have hol := (Array.getElem?_eq_some_iff.1 HWo.out).1
  clear H0
  by_cases hlt : k < ln
  rotate_left
  ·obtain rfl : k = ln := by omega
   have HTk : Hid (l.take k = l) := by show _ = _; rw [← HL.out]; exact List.take_length
   gi_wp2
   go_end0
   exact br_all (by have := HJs.out; rw [HTk.out] at this; exact this)
  have hll : k < l.length := by rw [HL.out]; exact hlt
  obtain ⟨b, off, hla, hb, ho⟩ := (HLn.out.below HBr.out (Nat.le_refl _)).2 k hlt
  subst hla
  have ho : LnAt wr b (off + k * 3) (atLn l k) := ho
  obtain ⟨d0, d1, d2⟩ := ho
  have HOx : Hid ((atLn l k).ok = true) := (lns_parts HVL.out).1 k hll
  have hit := HM.out k hlt
  have HSn := Lib.hid (openL_snoc hll)
  have HLt := Lib.hid (openL_lt hll)
  generalize atLn l k = x at d0 d1 d2 HOx HSn hit
  have hsr := HBr.out.size
  have hbx : Below wr.heap.size wr (wr.alloc (.cells #[.string x.item, .int .i64 x.qty, .bool x.saved] 40)) := (Below.refl _ _).alloc (Nat.le_refl _) _
  have HX := Lib.hid (heap_alloc_new wr (.cells #[.string x.item, .int .i64 x.qty, .bool x.saved] 40))
  rcases hs : x.saved with _ | _
  rotate_left
  ·rw [hs] at d2
   have HE : Hid (openL (l.take (k + 1)) = openL (l.take k)) := by show _ = _; rw [HSn.out, if_pos hs]
   have HJ2 := Lib.hid (HJ.out _ _ _ HJs.out (below_grown hbx))
   have HB2 := Lib.hid (HBr.out.trans (hbx.mono (by omega)))
   have HP2 := Lib.hid ((hbx.block _ hpl).trans HWp.out)
   have HO2 := Lib.hid ((hbx.block _ hol).trans HWo.out)
   rw [hs] at HJ2 HB2 HX HP2 HO2
   clear hs HSn
   gi_wp2
   go_roundw
   case rel => exact ⟨k + 1, by omega, by go_num, by rw [HE.out]; exact HJ2, HB2, HP2, HO2⟩
   case measure => simp [intOf]; omega
  have HE : Hid (openL (l.take (k + 1)) = openL (l.take k) ++ [x]) := by show _ = _; rw [HSn.out, if_neg (by rw [hs]; simp)]
  have HSv := Lib.hid hs
  rw [hs] at d2 hbx HX
  have p0 : (wr.alloc (.cells #[.string x.item, .int .i64 x.qty, .bool false] 40)).cell? ⟨bp, 0, none⟩ = some (.slice pa pn pc) := (cell_of_row _ _ _ _ _ _ ((hbx.block _ hpl).trans HWp.out)).trans rfl
  have q0 := (cell_of_row _ _ 0 _ _ _ HX.out).trans rfl
  clear hs HSn
  gi_wp2_with fail
  generalize wr.alloc (.cells #[.string x.item, .int .i64 x.qty, .bool false] 40) = w2 at hbx HX p0 q0 ⊢
  have HB2 := Lib.hid (HBr.out.trans (hbx.mono (by omega)))
  have hs2 := hbx.size
  refine ⟨trivial, (callsIn_wide.2 (knownPr w2 n₀ pa pn pc ps x.item (HPr.out.below HB2.out (Nat.le_refl _)) (by omega) hpn HInc.out)).mono ?_⟩
  rintro e w3 ⟨⟨op, b2, rfl, hpi⟩, hb3⟩
  obtain ⟨hO, hb2⟩ := price_val HInc.out hpi
  have hct : op.cents = centsOf ps x.item := by rw [hO]; rfl
  have hbb : b2 = hasP ps x := hb2
  subst hbb
  rw [hct]
  clear hpi hO hb2 hct

  have hx2 := (Array.getElem?_eq_some_iff.1 HX.out).1
  have HX3 := Lib.hid ((hb3.block _ (by omega)).trans HX.out)
  have gw : Below wr.heap.size wr w3 := hbx.trans (hb3.mono hbx.size)
  have hwr : IntKind.i64.wrap (centsOf ps x.item * qtyPaid os x) = (centsOf ps x.item * qtyPaid os x) := IntWalk.i64_in _ (by have := row_le HVP.out HVO.out HOx.out; have e : (rowV ps os x).cents = (centsOf ps x.item * qtyPaid os x) := rfl; omega)
  have hbo : w3.cell? ⟨bo, 0, none⟩ = some (.slice oa on oc) := (cell_of_row _ _ _ _ _ _ ((gw.block _ hol).trans HWo.out)).trans rfl
  obtain ⟨X, hXe⟩ : ∃ X, wr.heap.size = X := ⟨_, rfl⟩
  rw [hXe] at HX3
  have hxl : X < w3.heap.size := (Array.getElem?_eq_some_iff.1 HX3.out).1
  obtain ⟨y0, y1, y2⟩ := threeO HX3.out
  have S3 : w3.cell? ⟨X, 0, none⟩ = some (.string x.item) ∧ w3.cell? ⟨X, 1, none⟩ = some (.int .i64 x.qty) ∧ w3.cell? ⟨X, 2, none⟩ = some (.bool false) ∧ w3.cell? ⟨bo, 0, none⟩ = some (.slice oa on oc) := ⟨y0, y1, y2, hbo⟩
  clear hb3 HX hbx p0 q0 y0 y1 y2 hbo
  rw [hXe]
  gi_wp2_with fail
  obtain ⟨z0, hz0e⟩ : ∃ z0, w3.drew = z0 := ⟨_, rfl⟩
  have t0 : Below w3.heap.size w3 z0 := by rw [← hz0e]; exact ⟨rfl, rfl, rfl, Nat.le_refl _, fun _ _ => rfl⟩
  have g0 : Below wr.heap.size wr z0 := gw.trans (t0.mono gw.size)
  have Sz0 : z0.cell? ⟨X, 0, none⟩ = some (.string x.item) ∧ z0.cell? ⟨X, 1, none⟩ = some (.int .i64 x.qty) ∧ z0.cell? ⟨X, 2, none⟩ = some (.bool false) ∧ z0.cell? ⟨bo, 0, none⟩ = some (.slice oa on oc) := ⟨(t0.cell (block_lt_of_cell S3.1)).trans S3.1, (t0.cell (block_lt_of_cell S3.2.1)).trans S3.2.1, (t0.cell (block_lt_of_cell S3.2.2.1)).trans S3.2.2.1, (t0.cell (block_lt_of_cell S3.2.2.2)).trans S3.2.2.2⟩
  refine wpIn_wide.2 ?_
  refine wp_region_held_drew (S := fun w' => w'.cell? ⟨X, 0, none⟩ = some (.string x.item) ∧ w'.cell? ⟨X, 1, none⟩ = some (.int .i64 x.qty) ∧ w'.cell? ⟨X, 2, none⟩ = some (.bool false) ∧ w'.cell? ⟨bo, 0, none⟩ = some (.slice oa on oc)) (by kernel_rfl) (by rw [hz0e]; exact Sz0) (fun hHeld => ?_)
  rw [hz0e]
  clear hHeld hz0e t0
  refine tj 0 ?_
  refine tj 1 ?_
  refine tj 3 ?_
  refine tj 4 ?_
  refine tj 5 ?_
  refine tj 6 ?_
  refine tj 7 ?_
  refine wpAnyH_ready (rs := [2, 11]) (by kernel_rfl) (by simp) ?_
  refine AllReadyH.cons rfl (fun K hK => ?_) (AllReadyH.cons rfl (fun K hK => ?_) (AllReadyH.nil))
  ·skip
   go_simp
   go_at_call 48
   refine (strClone x.item hit z0).mono ?_
   rintro e z1 ⟨rfl, tz1⟩
   have g1 : Below wr.heap.size wr z1 := g0.trans (tz1.mono g0.size)
   have Sz1 : z1.cell? ⟨X, 0, none⟩ = some (.string x.item) ∧ z1.cell? ⟨X, 1, none⟩ = some (.int .i64 x.qty) ∧ z1.cell? ⟨X, 2, none⟩ = some (.bool false) ∧ z1.cell? ⟨bo, 0, none⟩ = some (.slice oa on oc) := ⟨(tz1.cell (block_lt_of_cell Sz0.1)).trans Sz0.1, (tz1.cell (block_lt_of_cell Sz0.2.1)).trans Sz0.2.1, (tz1.cell (block_lt_of_cell Sz0.2.2.1)).trans Sz0.2.2.1, (tz1.cell (block_lt_of_cell Sz0.2.2.2)).trans Sz0.2.2.2⟩
   refine hK.out _ _ Sz1 (fun hHeld3 => ?_)
   clear hK K hHeld3
   (try simp only [Act.put, u1, u2, u3])
   refine wpAnyH_ready (rs := [8, 11]) (by kernel_rfl) (by simp) ?_
   refine AllReadyH.cons rfl (fun K hK => ?_) (AllReadyH.cons rfl (fun K hK => ?_) (AllReadyH.nil))
   ·skip
    go_simp
    have hc := implPaidOf z1 n₀ oa on oc os x (HOf.out.below (HBr.out.trans (g1.mono (by omega))) (Nat.le_refl _)) (by have := g1.size; omega) hon HVO.out HOx.out
    rw [HSv.out] at hc
    go_at_call 49
    refine hc.mono ?_
    clear hc
    rintro e z2 ⟨rfl, tz2⟩
    have g2 : Below wr.heap.size wr z2 := g1.trans (tz2.mono g1.size)
    have Sz2 : z2.cell? ⟨X, 0, none⟩ = some (.string x.item) ∧ z2.cell? ⟨X, 1, none⟩ = some (.int .i64 x.qty) ∧ z2.cell? ⟨X, 2, none⟩ = some (.bool false) ∧ z2.cell? ⟨bo, 0, none⟩ = some (.slice oa on oc) := ⟨(tz2.cell (block_lt_of_cell Sz1.1)).trans Sz1.1, (tz2.cell (block_lt_of_cell Sz1.2.1)).trans Sz1.2.1, (tz2.cell (block_lt_of_cell Sz1.2.2.1)).trans Sz1.2.2.1, (tz2.cell (block_lt_of_cell Sz1.2.2.2)).trans Sz1.2.2.2⟩
    refine hK.out _ _ Sz2 (fun hHeld3 => ?_)
    clear hK K hHeld3
    (try simp only [Act.put, u1, u2, u3])
    refine tj 9 ?_
    refine tj 10 ?_
    refine wpAnyH_ready (rs := [11]) (by kernel_rfl) (by simp) ?_
    refine AllReadyH.cons rfl (fun K hK => ?_) (AllReadyH.nil)
    have talloc : Below z2.heap.size z2 (z2.alloc (.cells #[.string ⟨#[]⟩, .int .i64 0, .int .i64 0] 42)) := (Below.refl _ _).alloc (Nat.le_refl _) _
    have hboxn := Lib.hid (heap_alloc_new z2 (.cells #[.string ⟨#[]⟩, .int .i64 0, .int .i64 0] 42))
    have Salloc : (z2.alloc (.cells #[.string ⟨#[]⟩, .int .i64 0, .int .i64 0] 42)).cell? ⟨X, 0, none⟩ = some (.string x.item) ∧ (z2.alloc (.cells #[.string ⟨#[]⟩, .int .i64 0, .int .i64 0] 42)).cell? ⟨X, 1, none⟩ = some (.int .i64 x.qty) ∧ (z2.alloc (.cells #[.string ⟨#[]⟩, .int .i64 0, .int .i64 0] 42)).cell? ⟨X, 2, none⟩ = some (.bool false) ∧ (z2.alloc (.cells #[.string ⟨#[]⟩, .int .i64 0, .int .i64 0] 42)).cell? ⟨bo, 0, none⟩ = some (.slice oa on oc) := ⟨(talloc.cell (block_lt_of_cell Sz2.1)).trans Sz2.1, (talloc.cell (block_lt_of_cell Sz2.2.1)).trans Sz2.2.1, (talloc.cell (block_lt_of_cell Sz2.2.2.1)).trans Sz2.2.2.1, (talloc.cell (block_lt_of_cell Sz2.2.2.2)).trans Sz2.2.2.2⟩
    have galloc : Below wr.heap.size wr (z2.alloc (.cells #[.string ⟨#[]⟩, .int .i64 0, .int .i64 0] 42)) := g2.trans (talloc.mono g2.size)
    go_simp
    refine hK.out _ _ Salloc (fun hHeldA => ?_)
    clear hK K hHeldA
    (try simp only [Act.put, u1, u2, u3])
    generalize z2.alloc (.cells #[.string ⟨#[]⟩, .int .i64 0, .int .i64 0] 42) = z3 at talloc hboxn Salloc galloc ⊢
    have tz3 := talloc
    have hboxz3 := hboxn
    have Sz3 := Salloc
    have g3 := galloc
    clear talloc hboxn Salloc galloc
    obtain ⟨r0, r1, r2⟩ := threeO hboxz3.out
    have f0 : z3.frozen? ⟨z2.heap.size, 0, none⟩ = false := frozen_of_row _ _ _ _ _ hboxz3.out
    have f1 : z3.frozen? ⟨z2.heap.size, 1, none⟩ = false := frozen_of_row _ _ _ _ _ hboxz3.out
    have f2 : z3.frozen? ⟨z2.heap.size, 2, none⟩ = false := frozen_of_row _ _ _ _ _ hboxz3.out
    have hbw := g2.size
    have hxb : X < z2.heap.size := block_lt_of_cell Sz2.1
    have hob : bo < z2.heap.size := block_lt_of_cell Sz2.2.2.2
    have HPf : Hid ((((z3.setCell ⟨z2.heap.size, 0, none⟩ (.string x.item)).setCell ⟨z2.heap.size, 1, none⟩ (.int .i64 x.qty)).setCell ⟨z2.heap.size, 2, none⟩ (.int .i64 (centsOf ps x.item * qtyPaid os x))).heap[z2.heap.size]? = some (.cells #[.string x.item, .int .i64 x.qty, .int .i64 (centsOf ps x.item * qtyPaid os x)] 42 (0, 0))) := heap_setCell_same _ _ 2 _ _ (.int .i64 (centsOf ps x.item * qtyPaid os x)) (heap_setCell_same _ _ 1 _ _ (.int .i64 x.qty) (heap_setCell_same _ _ 0 _ _ (.string x.item) hboxz3.out))
    have gf : Below wr.heap.size wr (((z3.setCell ⟨z2.heap.size, 0, none⟩ (.string x.item)).setCell ⟨z2.heap.size, 1, none⟩ (.int .i64 x.qty)).setCell ⟨z2.heap.size, 2, none⟩ (.int .i64 (centsOf ps x.item * qtyPaid os x))) := ((g3.setCell (p := ⟨z2.heap.size, 0, none⟩) hbw (.string x.item)).setCell (p := ⟨z2.heap.size, 1, none⟩) hbw (.int .i64 x.qty)).setCell (p := ⟨z2.heap.size, 2, none⟩) hbw (.int .i64 (centsOf ps x.item * qtyPaid os x))
    have hoth : ∀ j, j < z2.heap.size → (((z3.setCell ⟨z2.heap.size, 0, none⟩ (.string x.item)).setCell ⟨z2.heap.size, 1, none⟩ (.int .i64 x.qty)).setCell ⟨z2.heap.size, 2, none⟩ (.int .i64 (centsOf ps x.item * qtyPaid os x))).heap[j]? = z3.heap[j]? := fun j hj => (heap_setCell_other _ _ _ _ (Nat.ne_of_lt hj)).trans ((heap_setCell_other _ _ _ _ (Nat.ne_of_lt hj)).trans (heap_setCell_other _ _ _ _ (Nat.ne_of_lt hj)))
    have Szf : (((z3.setCell ⟨z2.heap.size, 0, none⟩ (.string x.item)).setCell ⟨z2.heap.size, 1, none⟩ (.int .i64 x.qty)).setCell ⟨z2.heap.size, 2, none⟩ (.int .i64 (centsOf ps x.item * qtyPaid os x))).cell? ⟨X, 0, none⟩ = some (.string x.item) ∧ (((z3.setCell ⟨z2.heap.size, 0, none⟩ (.string x.item)).setCell ⟨z2.heap.size, 1, none⟩ (.int .i64 x.qty)).setCell ⟨z2.heap.size, 2, none⟩ (.int .i64 (centsOf ps x.item * qtyPaid os x))).cell? ⟨X, 1, none⟩ = some (.int .i64 x.qty) ∧ (((z3.setCell ⟨z2.heap.size, 0, none⟩ (.string x.item)).setCell ⟨z2.heap.size, 1, none⟩ (.int .i64 x.qty)).setCell ⟨z2.heap.size, 2, none⟩ (.int .i64 (centsOf ps x.item * qtyPaid os x))).cell? ⟨X, 2, none⟩ = some (.bool false) ∧ (((z3.setCell ⟨z2.heap.size, 0, none⟩ (.string x.item)).setCell ⟨z2.heap.size, 1, none⟩ (.int .i64 x.qty)).setCell ⟨z2.heap.size, 2, none⟩ (.int .i64 (centsOf ps x.item * qtyPaid os x))).cell? ⟨bo, 0, none⟩ = some (.slice oa on oc) := ⟨(World.cell?_of_block (a := ⟨X, 0, none⟩) (hoth _ hxb)).trans Sz3.1, (World.cell?_of_block (a := ⟨X, 1, none⟩) (hoth _ hxb)).trans Sz3.2.1, (World.cell?_of_block (a := ⟨X, 2, none⟩) (hoth _ hxb)).trans Sz3.2.2.1, (World.cell?_of_block (a := ⟨bo, 0, none⟩) (hoth _ hob)).trans Sz3.2.2.2⟩
    refine wpAnyH_ready (rs := [12]) (by kernel_rfl) (by simp) ?_
    refine AllReadyH.cons rfl (fun K hK => ?_) (AllReadyH.nil)
    go_simp
    refine hK.out _ _ Szf (fun hHeldB => ?_)
    clear hK K hHeldB r0 r1 r2 f0 f1 f2
    (try simp only [Act.put, u1, u2, u3])
    refine wpAnyH_done (by kernel_rfl) ?_ _
    generalize ((z3.setCell ⟨z2.heap.size, 0, none⟩ (.string x.item)).setCell ⟨z2.heap.size, 1, none⟩ (.int .i64 x.qty)).setCell ⟨z2.heap.size, 2, none⟩ (.int .i64 (centsOf ps x.item * qtyPaid os x)) = w8 at HPf gf Szf ⊢
    generalize z2.heap.size = RB at HPf ⊢
    obtain ⟨t0, t1, t2⟩ := threeO HPf.out
    have HJ8 := Lib.hid (HJ.out _ _ _ HJs.out (below_grown gf))
    have HB8 := Lib.hid (HBr.out.trans (gf.mono (by omega)))
    have HP8 := Lib.hid ((gf.block _ hpl).trans HWp.out)
    have HO8 := Lib.hid ((gf.block _ hol).trans HWo.out)
    obtain ⟨fn, tmps, assign, body, hy, hR⟩ := HY.out _ x w8 HJ8.out HLt.out HOx.out
    have HR := Lib.hid hR
    clear hR
    gi_wp2
    refine HR.out.mono ?_
    rintro e w9 (⟨rfl, hJ9, hk9⟩ | ⟨rfl, hJx9⟩)
    ·have HJ9 := Lib.hid hJ9
     have HB9 := Lib.hid (HB8.out.trans hk9.1)
     have HP9 := Lib.hid (hk9.2.1.trans HP8.out)
     have HO9 := Lib.hid (hk9.2.2.trans HO8.out)
     clear hJ9 hk9
     gi_wp2
     go_roundw
     case rel => exact ⟨k + 1, by omega, by go_num, by rw [HE.out]; exact HJ9, HB9, HP9, HO9⟩
     case measure => simp [intOf]; omega
    ·have HJx := Lib.hid hJx9
     clear hJx9
     gi_wp2
     refine bodyPost_ret (results_none rfl _ _ _) rfl ?_
     exact br_stop _ ⟨k + 1, HE.out.symm⟩ HJx.out
   ·skip
    have talloc : Below z1.heap.size z1 (z1.alloc (.cells #[.string ⟨#[]⟩, .int .i64 0, .int .i64 0] 42)) := (Below.refl _ _).alloc (Nat.le_refl _) _
    have hboxn := Lib.hid (heap_alloc_new z1 (.cells #[.string ⟨#[]⟩, .int .i64 0, .int .i64 0] 42))
    have Salloc : (z1.alloc (.cells #[.string ⟨#[]⟩, .int .i64 0, .int .i64 0] 42)).cell? ⟨X, 0, none⟩ = some (.string x.item) ∧ (z1.alloc (.cells #[.string ⟨#[]⟩, .int .i64 0, .int .i64 0] 42)).cell? ⟨X, 1, none⟩ = some (.int .i64 x.qty) ∧ (z1.alloc (.cells #[.string ⟨#[]⟩, .int .i64 0, .int .i64 0] 42)).cell? ⟨X, 2, none⟩ = some (.bool false) ∧ (z1.alloc (.cells #[.string ⟨#[]⟩, .int .i64 0, .int .i64 0] 42)).cell? ⟨bo, 0, none⟩ = some (.slice oa on oc) := ⟨(talloc.cell (block_lt_of_cell Sz1.1)).trans Sz1.1, (talloc.cell (block_lt_of_cell Sz1.2.1)).trans Sz1.2.1, (talloc.cell (block_lt_of_cell Sz1.2.2.1)).trans Sz1.2.2.1, (talloc.cell (block_lt_of_cell Sz1.2.2.2)).trans Sz1.2.2.2⟩
    have galloc : Below wr.heap.size wr (z1.alloc (.cells #[.string ⟨#[]⟩, .int .i64 0, .int .i64 0] 42)) := g1.trans (talloc.mono g1.size)
    go_simp
    refine hK.out _ _ Salloc (fun hHeldA => ?_)
    clear hK K hHeldA
    (try simp only [Act.put, u1, u2, u3])
    generalize z1.alloc (.cells #[.string ⟨#[]⟩, .int .i64 0, .int .i64 0] 42) = z4 at talloc hboxn Salloc galloc ⊢
    have tz4 := talloc
    have hboxz4 := hboxn
    have Sz4 := Salloc
    have g4 := galloc
    clear talloc hboxn Salloc galloc
    refine wpAnyH_ready (rs := [8]) (by kernel_rfl) (by simp) ?_
    refine AllReadyH.cons rfl (fun K hK => ?_) (AllReadyH.nil)
    go_simp
    have hc := implPaidOf z4 n₀ oa on oc os x (HOf.out.below (HBr.out.trans (g4.mono (by omega))) (Nat.le_refl _)) (by have := g4.size; omega) hon HVO.out HOx.out
    rw [HSv.out] at hc
    go_at_call 49
    refine hc.mono ?_
    clear hc
    rintro e z5 ⟨rfl, tz5⟩
    have g5 : Below wr.heap.size wr z5 := g4.trans (tz5.mono g4.size)
    have Sz5 : z5.cell? ⟨X, 0, none⟩ = some (.string x.item) ∧ z5.cell? ⟨X, 1, none⟩ = some (.int .i64 x.qty) ∧ z5.cell? ⟨X, 2, none⟩ = some (.bool false) ∧ z5.cell? ⟨bo, 0, none⟩ = some (.slice oa on oc) := ⟨(tz5.cell (block_lt_of_cell Sz4.1)).trans Sz4.1, (tz5.cell (block_lt_of_cell Sz4.2.1)).trans Sz4.2.1, (tz5.cell (block_lt_of_cell Sz4.2.2.1)).trans Sz4.2.2.1, (tz5.cell (block_lt_of_cell Sz4.2.2.2)).trans Sz4.2.2.2⟩
    refine hK.out _ _ Sz5 (fun hHeld3 => ?_)
    clear hK K hHeld3
    (try simp only [Act.put, u1, u2, u3])
    refine tj 9 ?_
    refine tj 10 ?_
    have hboxz5 := Lib.hid ((tz5.block _ (Array.getElem?_eq_some_iff.1 hboxz4.out).1).trans hboxz4.out)
    obtain ⟨r0, r1, r2⟩ := threeO hboxz5.out
    have f0 : z5.frozen? ⟨z1.heap.size, 0, none⟩ = false := frozen_of_row _ _ _ _ _ hboxz5.out
    have f1 : z5.frozen? ⟨z1.heap.size, 1, none⟩ = false := frozen_of_row _ _ _ _ _ hboxz5.out
    have f2 : z5.frozen? ⟨z1.heap.size, 2, none⟩ = false := frozen_of_row _ _ _ _ _ hboxz5.out
    have hbw := g1.size
    have hxb : X < z1.heap.size := block_lt_of_cell Sz1.1
    have hob : bo < z1.heap.size := block_lt_of_cell Sz1.2.2.2
    have HPf : Hid ((((z5.setCell ⟨z1.heap.size, 0, none⟩ (.string x.item)).setCell ⟨z1.heap.size, 1, none⟩ (.int .i64 x.qty)).setCell ⟨z1.heap.size, 2, none⟩ (.int .i64 (centsOf ps x.item * qtyPaid os x))).heap[z1.heap.size]? = some (.cells #[.string x.item, .int .i64 x.qty, .int .i64 (centsOf ps x.item * qtyPaid os x)] 42 (0, 0))) := heap_setCell_same _ _ 2 _ _ (.int .i64 (centsOf ps x.item * qtyPaid os x)) (heap_setCell_same _ _ 1 _ _ (.int .i64 x.qty) (heap_setCell_same _ _ 0 _ _ (.string x.item) hboxz5.out))
    have gf : Below wr.heap.size wr (((z5.setCell ⟨z1.heap.size, 0, none⟩ (.string x.item)).setCell ⟨z1.heap.size, 1, none⟩ (.int .i64 x.qty)).setCell ⟨z1.heap.size, 2, none⟩ (.int .i64 (centsOf ps x.item * qtyPaid os x))) := ((g5.setCell (p := ⟨z1.heap.size, 0, none⟩) hbw (.string x.item)).setCell (p := ⟨z1.heap.size, 1, none⟩) hbw (.int .i64 x.qty)).setCell (p := ⟨z1.heap.size, 2, none⟩) hbw (.int .i64 (centsOf ps x.item * qtyPaid os x))
    have hoth : ∀ j, j < z1.heap.size → (((z5.setCell ⟨z1.heap.size, 0, none⟩ (.string x.item)).setCell ⟨z1.heap.size, 1, none⟩ (.int .i64 x.qty)).setCell ⟨z1.heap.size, 2, none⟩ (.int .i64 (centsOf ps x.item * qtyPaid os x))).heap[j]? = z5.heap[j]? := fun j hj => (heap_setCell_other _ _ _ _ (Nat.ne_of_lt hj)).trans ((heap_setCell_other _ _ _ _ (Nat.ne_of_lt hj)).trans (heap_setCell_other _ _ _ _ (Nat.ne_of_lt hj)))
    have Szf : (((z5.setCell ⟨z1.heap.size, 0, none⟩ (.string x.item)).setCell ⟨z1.heap.size, 1, none⟩ (.int .i64 x.qty)).setCell ⟨z1.heap.size, 2, none⟩ (.int .i64 (centsOf ps x.item * qtyPaid os x))).cell? ⟨X, 0, none⟩ = some (.string x.item) ∧ (((z5.setCell ⟨z1.heap.size, 0, none⟩ (.string x.item)).setCell ⟨z1.heap.size, 1, none⟩ (.int .i64 x.qty)).setCell ⟨z1.heap.size, 2, none⟩ (.int .i64 (centsOf ps x.item * qtyPaid os x))).cell? ⟨X, 1, none⟩ = some (.int .i64 x.qty) ∧ (((z5.setCell ⟨z1.heap.size, 0, none⟩ (.string x.item)).setCell ⟨z1.heap.size, 1, none⟩ (.int .i64 x.qty)).setCell ⟨z1.heap.size, 2, none⟩ (.int .i64 (centsOf ps x.item * qtyPaid os x))).cell? ⟨X, 2, none⟩ = some (.bool false) ∧ (((z5.setCell ⟨z1.heap.size, 0, none⟩ (.string x.item)).setCell ⟨z1.heap.size, 1, none⟩ (.int .i64 x.qty)).setCell ⟨z1.heap.size, 2, none⟩ (.int .i64 (centsOf ps x.item * qtyPaid os x))).cell? ⟨bo, 0, none⟩ = some (.slice oa on oc) := ⟨(World.cell?_of_block (a := ⟨X, 0, none⟩) (hoth _ hxb)).trans Sz5.1, (World.cell?_of_block (a := ⟨X, 1, none⟩) (hoth _ hxb)).trans Sz5.2.1, (World.cell?_of_block (a := ⟨X, 2, none⟩) (hoth _ hxb)).trans Sz5.2.2.1, (World.cell?_of_block (a := ⟨bo, 0, none⟩) (hoth _ hob)).trans Sz5.2.2.2⟩
    refine wpAnyH_ready (rs := [12]) (by kernel_rfl) (by simp) ?_
    refine AllReadyH.cons rfl (fun K hK => ?_) (AllReadyH.nil)
    go_simp
    refine hK.out _ _ Szf (fun hHeldB => ?_)
    clear hK K hHeldB r0 r1 r2 f0 f1 f2
    (try simp only [Act.put, u1, u2, u3])
    refine wpAnyH_done (by kernel_rfl) ?_ _
    generalize ((z5.setCell ⟨z1.heap.size, 0, none⟩ (.string x.item)).setCell ⟨z1.heap.size, 1, none⟩ (.int .i64 x.qty)).setCell ⟨z1.heap.size, 2, none⟩ (.int .i64 (centsOf ps x.item * qtyPaid os x)) = w8 at HPf gf Szf ⊢
    generalize z1.heap.size = RB at HPf ⊢
    obtain ⟨t0, t1, t2⟩ := threeO HPf.out
    have HJ8 := Lib.hid (HJ.out _ _ _ HJs.out (below_grown gf))
    have HB8 := Lib.hid (HBr.out.trans (gf.mono (by omega)))
    have HP8 := Lib.hid ((gf.block _ hpl).trans HWp.out)
    have HO8 := Lib.hid ((gf.block _ hol).trans HWo.out)
    obtain ⟨fn, tmps, assign, body, hy, hR⟩ := HY.out _ x w8 HJ8.out HLt.out HOx.out
    have HR := Lib.hid hR
    clear hR
    gi_wp2
    refine HR.out.mono ?_
    rintro e w9 (⟨rfl, hJ9, hk9⟩ | ⟨rfl, hJx9⟩)
    ·have HJ9 := Lib.hid hJ9
     have HB9 := Lib.hid (HB8.out.trans hk9.1)
     have HP9 := Lib.hid (hk9.2.1.trans HP8.out)
     have HO9 := Lib.hid (hk9.2.2.trans HO8.out)
     clear hJ9 hk9
     gi_wp2
     go_roundw
     case rel => exact ⟨k + 1, by omega, by go_num, by rw [HE.out]; exact HJ9, HB9, HP9, HO9⟩
     case measure => simp [intOf]; omega
    ·have HJx := Lib.hid hJx9
     clear hJx9
     gi_wp2
     refine bodyPost_ret (results_none rfl _ _ _) rfl ?_
     exact br_stop _ ⟨k + 1, HE.out.symm⟩ HJx.out
  ·skip
   have talloc : Below z0.heap.size z0 (z0.alloc (.cells #[.string ⟨#[]⟩, .int .i64 0, .int .i64 0] 42)) := (Below.refl _ _).alloc (Nat.le_refl _) _
   have hboxn := Lib.hid (heap_alloc_new z0 (.cells #[.string ⟨#[]⟩, .int .i64 0, .int .i64 0] 42))
   have Salloc : (z0.alloc (.cells #[.string ⟨#[]⟩, .int .i64 0, .int .i64 0] 42)).cell? ⟨X, 0, none⟩ = some (.string x.item) ∧ (z0.alloc (.cells #[.string ⟨#[]⟩, .int .i64 0, .int .i64 0] 42)).cell? ⟨X, 1, none⟩ = some (.int .i64 x.qty) ∧ (z0.alloc (.cells #[.string ⟨#[]⟩, .int .i64 0, .int .i64 0] 42)).cell? ⟨X, 2, none⟩ = some (.bool false) ∧ (z0.alloc (.cells #[.string ⟨#[]⟩, .int .i64 0, .int .i64 0] 42)).cell? ⟨bo, 0, none⟩ = some (.slice oa on oc) := ⟨(talloc.cell (block_lt_of_cell Sz0.1)).trans Sz0.1, (talloc.cell (block_lt_of_cell Sz0.2.1)).trans Sz0.2.1, (talloc.cell (block_lt_of_cell Sz0.2.2.1)).trans Sz0.2.2.1, (talloc.cell (block_lt_of_cell Sz0.2.2.2)).trans Sz0.2.2.2⟩
   have galloc : Below wr.heap.size wr (z0.alloc (.cells #[.string ⟨#[]⟩, .int .i64 0, .int .i64 0] 42)) := g0.trans (talloc.mono g0.size)
   go_simp
   refine hK.out _ _ Salloc (fun hHeldA => ?_)
   clear hK K hHeldA
   (try simp only [Act.put, u1, u2, u3])
   generalize z0.alloc (.cells #[.string ⟨#[]⟩, .int .i64 0, .int .i64 0] 42) = z6 at talloc hboxn Salloc galloc ⊢
   have tz6 := talloc
   have hboxz6 := hboxn
   have Sz6 := Salloc
   have g6 := galloc
   clear talloc hboxn Salloc galloc
   refine wpAnyH_ready (rs := [2]) (by kernel_rfl) (by simp) ?_
   refine AllReadyH.cons rfl (fun K hK => ?_) (AllReadyH.nil)
   go_simp
   go_at_call 48
   refine (strClone x.item hit z6).mono ?_
   rintro e z7 ⟨rfl, tz7⟩
   have g7 : Below wr.heap.size wr z7 := g6.trans (tz7.mono g6.size)
   have Sz7 : z7.cell? ⟨X, 0, none⟩ = some (.string x.item) ∧ z7.cell? ⟨X, 1, none⟩ = some (.int .i64 x.qty) ∧ z7.cell? ⟨X, 2, none⟩ = some (.bool false) ∧ z7.cell? ⟨bo, 0, none⟩ = some (.slice oa on oc) := ⟨(tz7.cell (block_lt_of_cell Sz6.1)).trans Sz6.1, (tz7.cell (block_lt_of_cell Sz6.2.1)).trans Sz6.2.1, (tz7.cell (block_lt_of_cell Sz6.2.2.1)).trans Sz6.2.2.1, (tz7.cell (block_lt_of_cell Sz6.2.2.2)).trans Sz6.2.2.2⟩
   refine hK.out _ _ Sz7 (fun hHeld3 => ?_)
   clear hK K hHeld3
   (try simp only [Act.put, u1, u2, u3])
   have hboxz7 := Lib.hid ((tz7.block _ (Array.getElem?_eq_some_iff.1 hboxz6.out).1).trans hboxz6.out)
   refine wpAnyH_ready (rs := [8]) (by kernel_rfl) (by simp) ?_
   refine AllReadyH.cons rfl (fun K hK => ?_) (AllReadyH.nil)
   go_simp
   have hc := implPaidOf z7 n₀ oa on oc os x (HOf.out.below (HBr.out.trans (g7.mono (by omega))) (Nat.le_refl _)) (by have := g7.size; omega) hon HVO.out HOx.out
   rw [HSv.out] at hc
   go_at_call 49
   refine hc.mono ?_
   clear hc
   rintro e z8 ⟨rfl, tz8⟩
   have g8 : Below wr.heap.size wr z8 := g7.trans (tz8.mono g7.size)
   have Sz8 : z8.cell? ⟨X, 0, none⟩ = some (.string x.item) ∧ z8.cell? ⟨X, 1, none⟩ = some (.int .i64 x.qty) ∧ z8.cell? ⟨X, 2, none⟩ = some (.bool false) ∧ z8.cell? ⟨bo, 0, none⟩ = some (.slice oa on oc) := ⟨(tz8.cell (block_lt_of_cell Sz7.1)).trans Sz7.1, (tz8.cell (block_lt_of_cell Sz7.2.1)).trans Sz7.2.1, (tz8.cell (block_lt_of_cell Sz7.2.2.1)).trans Sz7.2.2.1, (tz8.cell (block_lt_of_cell Sz7.2.2.2)).trans Sz7.2.2.2⟩
   refine hK.out _ _ Sz8 (fun hHeld3 => ?_)
   clear hK K hHeld3
   (try simp only [Act.put, u1, u2, u3])
   refine tj 9 ?_
   refine tj 10 ?_
   have hboxz8 := Lib.hid ((tz8.block _ (Array.getElem?_eq_some_iff.1 hboxz7.out).1).trans hboxz7.out)
   obtain ⟨r0, r1, r2⟩ := threeO hboxz8.out
   have f0 : z8.frozen? ⟨z0.heap.size, 0, none⟩ = false := frozen_of_row _ _ _ _ _ hboxz8.out
   have f1 : z8.frozen? ⟨z0.heap.size, 1, none⟩ = false := frozen_of_row _ _ _ _ _ hboxz8.out
   have f2 : z8.frozen? ⟨z0.heap.size, 2, none⟩ = false := frozen_of_row _ _ _ _ _ hboxz8.out
   have hbw := g0.size
   have hxb : X < z0.heap.size := block_lt_of_cell Sz0.1
   have hob : bo < z0.heap.size := block_lt_of_cell Sz0.2.2.2
   have HPf : Hid ((((z8.setCell ⟨z0.heap.size, 0, none⟩ (.string x.item)).setCell ⟨z0.heap.size, 1, none⟩ (.int .i64 x.qty)).setCell ⟨z0.heap.size, 2, none⟩ (.int .i64 (centsOf ps x.item * qtyPaid os x))).heap[z0.heap.size]? = some (.cells #[.string x.item, .int .i64 x.qty, .int .i64 (centsOf ps x.item * qtyPaid os x)] 42 (0, 0))) := heap_setCell_same _ _ 2 _ _ (.int .i64 (centsOf ps x.item * qtyPaid os x)) (heap_setCell_same _ _ 1 _ _ (.int .i64 x.qty) (heap_setCell_same _ _ 0 _ _ (.string x.item) hboxz8.out))
   have gf : Below wr.heap.size wr (((z8.setCell ⟨z0.heap.size, 0, none⟩ (.string x.item)).setCell ⟨z0.heap.size, 1, none⟩ (.int .i64 x.qty)).setCell ⟨z0.heap.size, 2, none⟩ (.int .i64 (centsOf ps x.item * qtyPaid os x))) := ((g8.setCell (p := ⟨z0.heap.size, 0, none⟩) hbw (.string x.item)).setCell (p := ⟨z0.heap.size, 1, none⟩) hbw (.int .i64 x.qty)).setCell (p := ⟨z0.heap.size, 2, none⟩) hbw (.int .i64 (centsOf ps x.item * qtyPaid os x))
   have hoth : ∀ j, j < z0.heap.size → (((z8.setCell ⟨z0.heap.size, 0, none⟩ (.string x.item)).setCell ⟨z0.heap.size, 1, none⟩ (.int .i64 x.qty)).setCell ⟨z0.heap.size, 2, none⟩ (.int .i64 (centsOf ps x.item * qtyPaid os x))).heap[j]? = z8.heap[j]? := fun j hj => (heap_setCell_other _ _ _ _ (Nat.ne_of_lt hj)).trans ((heap_setCell_other _ _ _ _ (Nat.ne_of_lt hj)).trans (heap_setCell_other _ _ _ _ (Nat.ne_of_lt hj)))
   have Szf : (((z8.setCell ⟨z0.heap.size, 0, none⟩ (.string x.item)).setCell ⟨z0.heap.size, 1, none⟩ (.int .i64 x.qty)).setCell ⟨z0.heap.size, 2, none⟩ (.int .i64 (centsOf ps x.item * qtyPaid os x))).cell? ⟨X, 0, none⟩ = some (.string x.item) ∧ (((z8.setCell ⟨z0.heap.size, 0, none⟩ (.string x.item)).setCell ⟨z0.heap.size, 1, none⟩ (.int .i64 x.qty)).setCell ⟨z0.heap.size, 2, none⟩ (.int .i64 (centsOf ps x.item * qtyPaid os x))).cell? ⟨X, 1, none⟩ = some (.int .i64 x.qty) ∧ (((z8.setCell ⟨z0.heap.size, 0, none⟩ (.string x.item)).setCell ⟨z0.heap.size, 1, none⟩ (.int .i64 x.qty)).setCell ⟨z0.heap.size, 2, none⟩ (.int .i64 (centsOf ps x.item * qtyPaid os x))).cell? ⟨X, 2, none⟩ = some (.bool false) ∧ (((z8.setCell ⟨z0.heap.size, 0, none⟩ (.string x.item)).setCell ⟨z0.heap.size, 1, none⟩ (.int .i64 x.qty)).setCell ⟨z0.heap.size, 2, none⟩ (.int .i64 (centsOf ps x.item * qtyPaid os x))).cell? ⟨bo, 0, none⟩ = some (.slice oa on oc) := ⟨(World.cell?_of_block (a := ⟨X, 0, none⟩) (hoth _ hxb)).trans Sz8.1, (World.cell?_of_block (a := ⟨X, 1, none⟩) (hoth _ hxb)).trans Sz8.2.1, (World.cell?_of_block (a := ⟨X, 2, none⟩) (hoth _ hxb)).trans Sz8.2.2.1, (World.cell?_of_block (a := ⟨bo, 0, none⟩) (hoth _ hob)).trans Sz8.2.2.2⟩
   refine wpAnyH_ready (rs := [12]) (by kernel_rfl) (by simp) ?_
   refine AllReadyH.cons rfl (fun K hK => ?_) (AllReadyH.nil)
   go_simp
   refine hK.out _ _ Szf (fun hHeldB => ?_)
   clear hK K hHeldB r0 r1 r2 f0 f1 f2
   (try simp only [Act.put, u1, u2, u3])
   refine wpAnyH_done (by kernel_rfl) ?_ _
   generalize ((z8.setCell ⟨z0.heap.size, 0, none⟩ (.string x.item)).setCell ⟨z0.heap.size, 1, none⟩ (.int .i64 x.qty)).setCell ⟨z0.heap.size, 2, none⟩ (.int .i64 (centsOf ps x.item * qtyPaid os x)) = w8 at HPf gf Szf ⊢
   generalize z0.heap.size = RB at HPf ⊢
   obtain ⟨t0, t1, t2⟩ := threeO HPf.out
   have HJ8 := Lib.hid (HJ.out _ _ _ HJs.out (below_grown gf))
   have HB8 := Lib.hid (HBr.out.trans (gf.mono (by omega)))
   have HP8 := Lib.hid ((gf.block _ hpl).trans HWp.out)
   have HO8 := Lib.hid ((gf.block _ hol).trans HWo.out)
   obtain ⟨fn, tmps, assign, body, hy, hR⟩ := HY.out _ x w8 HJ8.out HLt.out HOx.out
   have HR := Lib.hid hR
   clear hR
   gi_wp2
   refine HR.out.mono ?_
   rintro e w9 (⟨rfl, hJ9, hk9⟩ | ⟨rfl, hJx9⟩)
   ·have HJ9 := Lib.hid hJ9
    have HB9 := Lib.hid (HB8.out.trans hk9.1)
    have HP9 := Lib.hid (hk9.2.1.trans HP8.out)
    have HO9 := Lib.hid (hk9.2.2.trans HO8.out)
    clear hJ9 hk9
    gi_wp2
    go_roundw
    case rel => exact ⟨k + 1, by omega, by go_num, by rw [HE.out]; exact HJ9, HB9, HP9, HO9⟩
    case measure => simp [intOf]; omega
   ·have HJx := Lib.hid hJx9
    clear hJx9
    gi_wp2
    refine bodyPost_ret (results_none rfl _ _ _) rfl ?_
    exact br_stop _ ⟨k + 1, HE.out.symm⟩ HJx.out
end Go.Proofs.YtgagchlcafdiaaaGreat
