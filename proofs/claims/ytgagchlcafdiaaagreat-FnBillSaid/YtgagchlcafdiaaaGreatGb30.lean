/- Walks and mathematics that several claims share, part 30. -/
import Derived.Test.YtgagchlcafdiaaaGreatGb1
import Derived.Test.YtgagchlcafdiaaaGreatGb29
import Derived.Test.YtgagchlcafdiaaaGreatGb10
import Derived.Deep.Cut
import Derived.Laws.EntriesVeiled
import Derived.Deep.RegionHeld3
import Derived.IntWalk
import Derived.Test.YtgagchlcafdiaaaGreatGbA
namespace Go.Proofs.YtgagchlcafdiaaaGreat
set_option maxRecDepth 100000
open Go.RowKit
set_option linter.unusedVariables false
set_option linter.unusedSimpArgs false
set_option linter.unusedVariables false
set_option linter.unusedSimpArgs false

def PrV.ok (o : PrV) : Bool := itemB o.item && inB o.cents 1 1000000
def atPr (l : List PrV) (i : Nat) : PrV := l.getD i PrV.zero
def Prok (l : List PrV) (i : Nat) : Bool := (atPr l i).ok
def Princ (l : List PrV) (i : Nat) : Bool := decide (i = 0) || ltS (atPr l (i - 1)).item (atPr l i).item
def PrsB (l : List PrV) : Bool := sortB l.length (Prok l) (Princ l)
theorem Princ_first (l : List PrV) : ∀ i, i < 1 → Princ l i = true := fun i hi => by obtain rfl : i = 0 := by omega
                                                                                     rfl
theorem bxProk {w w1 : World} {cs : Array Value} {T : TypeId} (hb : Below (w.alloc (.cells cs T)).heap.size (w.alloc (.cells cs T)) w1) : w1.heap[w.heap.size]? = some (.cells cs T (0, 0)) := (hb.block _ (by show _ < (w.heap.push _).size; simp)).trans (by show (w.heap.push _)[_]? = _; simp)

theorem implProk (o : PrV) (w : World) : Calls Tryz.prog 32 #[.agg #[.string o.item, .int .i64 o.cents]] w fun e w' => e = .returned (.bool o.ok) ∧ Below w.heap.size w w' := by
 have HD : Hid (o.ok = (itemB o.item && inB o.cents 1 1000000)) := rfl
 generalize o.ok = k at HD ⊢
 obtain ⟨item, cents⟩ := o
 simp only at HD ⊢
 rcases hi : itemB item with _ | _
 ·have HI := Lib.hid hi
  clear hi
  go_enter Tryz.func32, Tryz.ntmps32
  go_wp2_with fail
  refine (implItem item _).mono ?_
  rintro e w1 ⟨rfl, rfl⟩
  rw [HI.out]
  go_wp2
  go_ret
  exact ⟨by rw [HD.out, HI.out]; rfl, ((Below.refl _ w).alloc (Nat.le_refl _) _)⟩
 ·have HI := Lib.hid hi
  clear hi
  go_enter Tryz.func32, Tryz.ntmps32
  go_wp2_with fail
  refine (implItem item _).mono ?_
  rintro e w1 ⟨rfl, rfl⟩
  rw [HI.out]
  go_wp2_with fail
  refine (inRange _ _ _ _).mono ?_
  rintro e w1 ⟨rfl, rfl⟩
  go_wp2
  go_ret
  exact ⟨by rw [HD.out, HI.out]; rfl, ((Below.refl _ w).alloc (Nat.le_refl _) _)⟩
theorem Pritem (o : PrV) (w : World) : Calls Tryz.prog 56 #[.agg #[.string o.item, .int .i64 o.cents]] w fun e w' => e = .returned (.string o.item) ∧ Below w.heap.size w w' := by
 go_enter Tryz.func56, Tryz.ntmps56
 go_wp2
 go_ret
 exact ⟨rfl, ((Below.refl _ w).alloc (Nat.le_refl _) _)⟩
set_option maxHeartbeats 10000000 in
theorem Prord (x y : PrV) (g : Nat) (w : World) (hg : w.cell? ⟨g, 0, none⟩ = some (.func (.func 56) #[] #[])) : Calls Tryz.prog 83 #[.agg #[.string x.item, .int .i64 x.cents], .agg #[.string y.item, .int .i64 y.cents], .pointer (some ⟨g, 0, none⟩)] w fun e w' => e = .returned (.int .i64 (cmpS x.item y.item)) ∧ Below w.heap.size w w' := by
 have hb0 : Below w.heap.size w ((w.alloc (.cells #[.string x.item, .int .i64 x.cents] 63)).alloc (.cells #[.string y.item, .int .i64 y.cents] 63)) := ((Below.refl _ w).alloc (Nat.le_refl _) _).alloc (by show _ ≤ (w.heap.push _).size; simp) _
 have HB := Lib.hid hb0
 have hglt := block_lt_of_cell hg
 have hg2 := (hb0.cell (p := ⟨g, 0, none⟩) hglt).trans hg
 have hx : ((w.alloc (.cells #[.string x.item, .int .i64 x.cents] 63)).alloc (.cells #[.string y.item, .int .i64 y.cents] 63)).heap[w.heap.size]? = some (.cells #[.string x.item, .int .i64 x.cents] 63 (0, 0)) := heap_alloc2_old _ _ _
 have hy : ((w.alloc (.cells #[.string x.item, .int .i64 x.cents] 63)).alloc (.cells #[.string y.item, .int .i64 y.cents] 63)).heap[w.heap.size + 1]? = some (.cells #[.string y.item, .int .i64 y.cents] 63 (0, 0)) := heap_alloc2_new _ _ _
 go_enter Tryz.func83, Tryz.ntmps83
 go_wp2_with fail
 generalize (w.alloc (.cells #[.string x.item, .int .i64 x.cents] 63)).alloc (.cells #[.string y.item, .int .i64 y.cents] 63) = w2 at HB hg2 hx hy ⊢
 have a0 := cell_of_row _ _ 0 _ _ _ hx
 have b0 := cell_of_row _ _ 0 _ _ _ hy
 have a1 := cell_of_row _ _ 1 _ _ _ hx
 have b1 := cell_of_row _ _ 1 _ _ _ hy
 simp only [List.getElem?_toArray, List.getElem?_cons_zero, List.getElem?_cons_succ] at a0 a1 b0 b1
 clear hx hy hb0 hg
 have hS : w2.drew.cell? ⟨g, 0, none⟩ = some (.func (.func 56) #[] #[]) ∧ w2.drew.cell? ⟨w.heap.size, 0, none⟩ = some (.string x.item) ∧ w2.drew.cell? ⟨w.heap.size, 1, none⟩ = some (.int .i64 x.cents) ∧ w2.drew.cell? ⟨w.heap.size + 1, 0, none⟩ = some (.string y.item) ∧ w2.drew.cell? ⟨w.heap.size + 1, 1, none⟩ = some (.int .i64 y.cents) := ⟨hg2, a0, a1, b0, b1⟩
 go_wp2_with fail
 refine wp_region_held_drew (S := fun w' => w'.cell? ⟨g, 0, none⟩ = some (.func (.func 56) #[] #[]) ∧ w'.cell? ⟨w.heap.size, 0, none⟩ = some (.string x.item) ∧ w'.cell? ⟨w.heap.size, 1, none⟩ = some (.int .i64 x.cents) ∧ w'.cell? ⟨w.heap.size + 1, 0, none⟩ = some (.string y.item) ∧ w'.cell? ⟨w.heap.size + 1, 1, none⟩ = some (.int .i64 y.cents)) (by kernel_rfl) hS (fun hHeld => ?_)
 refine tj 0 ?_
 refine tj 1 ?_
 refine tj 3 ?_
 refine tj 4 ?_
 refine rk 2 rfl (fun K hK => ?_)
 go_simp
 go_at_call 56
 refine (Pritem x w2.drew).mono ?_
 rintro e w3 ⟨rfl, hb3⟩
 obtain ⟨q3_0, q3_1, q3_2, q3_3, q3_4⟩ := hS
 refine hK.out _ _ ⟨(hb3.cell (block_lt_of_cell q3_0)).trans q3_0, (hb3.cell (block_lt_of_cell q3_1)).trans q3_1, (hb3.cell (block_lt_of_cell q3_2)).trans q3_2, (hb3.cell (block_lt_of_cell q3_3)).trans q3_3, (hb3.cell (block_lt_of_cell q3_4)).trans q3_4⟩ (fun hHeld2 => ?_)
 clear hK K
 (try simp only [Act.put, u1, u2, u3])
 refine rk 5 rfl (fun K hK => ?_)
 go_simp
 go_at_call 56
 refine (Pritem y w3).mono ?_
 rintro e w4 ⟨rfl, hb4⟩
 obtain ⟨q4_0, q4_1, q4_2, q4_3, q4_4⟩ := hHeld2
 refine hK.out _ _ ⟨(hb4.cell (block_lt_of_cell q4_0)).trans q4_0, (hb4.cell (block_lt_of_cell q4_1)).trans q4_1, (hb4.cell (block_lt_of_cell q4_2)).trans q4_2, (hb4.cell (block_lt_of_cell q4_3)).trans q4_3, (hb4.cell (block_lt_of_cell q4_4)).trans q4_4⟩ (fun hHeld3 => ?_)
 clear hK K
 (try simp only [Act.put, u1, u2, u3])
 refine rk 6 rfl (fun K hK => ?_)
 go_simp
 go_at_call 84
 refine (cmpStr x.item y.item w4).mono ?_
 rintro e w5 ⟨rfl, rfl⟩
 refine hK.out _ _ hHeld3 (fun hHeld4 => ?_)
 clear hK K
 (try simp only [Act.put, u1, u2, u3])
 refine tj 7 ?_
 refine wpAnyH_done (by kernel_rfl) ?_ _
 have HB5 := Lib.hid (HB.out.trans (((Below.mk hb3.os hb3.tape hb3.output hb3.size hb3.block : Below w2.heap.size w2 w3).trans (hb4.mono hb3.size)).mono HB.out.size))
 go_wp2
 go_ret
 exact ⟨rfl, HB5.out⟩
set_option maxHeartbeats 10000000 in
theorem Princ_walk (w : World) (B : Nat) (a : Option Addr) (n c g : Nat) (l : List PrV) (h : Prs w B a n l) (hB : B ≤ w.heap.size) (hn : n ≤ 1048576) (hg : w.cell? ⟨g, 0, none⟩ = some (.func (.func 56) #[] #[])) : Calls Tryz.prog 52 #[.agg #[.slice a n c, .func (.func 83) #[] #[.pointer (some ⟨g, 0, none⟩)]]] w fun e w' => e = .returned (.bool ((List.range n).all (Princ l))) ∧ Below w.heap.size w w' := by
 have hb0 : Below w.heap.size w (w.alloc (.cells #[.slice a n c, .func (.func 83) #[] #[.pointer (some ⟨g, 0, none⟩)]] 68)) := (Below.refl _ w).alloc (Nat.le_refl _) _
 have HO := Lib.hid (h.below hb0 hB)
 have HB := Lib.hid hb0
 have HX := Lib.hid (bxProk (Below.refl _ (w.alloc (.cells #[.slice a n c, .func (.func 83) #[] #[.pointer (some ⟨g, 0, none⟩)]] 68))))
 have HL := Lib.hid h.1
 have hglt := block_lt_of_cell hg
 have HG := Lib.hid ((hb0.cell (p := ⟨g, 0, none⟩) hglt).trans hg)
 have hsz : w.heap.size < (w.alloc (.cells #[.slice a n c, .func (.func 83) #[] #[.pointer (some ⟨g, 0, none⟩)]] 68)).heap.size := by show _ < (w.heap.push _).size; simp
 clear h hb0 hg
 go_enter Tryz.func52, Tryz.ntmps52
 go_wp2_with fail
 generalize w.alloc (.cells #[.slice a n c, .func (.func 83) #[] #[.pointer (some ⟨g, 0, none⟩)]] 68) = w0 at HO HB HX HG hsz ⊢
 go_loopw [3] (fun i wr => ∃ m : Nat, (m ≤ n ∨ m = 1) ∧ 1 ≤ m ∧ i = .int .i64 (m : Int) ∧ Hid (∀ i, i < m → Princ l i = true) ∧ Hid (Below w0.heap.size w0 wr)) (fun i _ => n + 1 - (intOf i).toNat)
 case atStart => exact ⟨1, .inr rfl, Nat.le_refl _, rfl, Princ_first l, Below.refl _ _⟩
 case round =>
  obtain ⟨m, hk, h1, rfl, HR, HBr⟩ := hrel
  have hxb := (HBr.out.block _ (by omega)).trans HX.out
  have c0 := cell_of_row _ _ 0 _ _ _ hxb
  have c1 := cell_of_row _ _ 1 _ _ _ hxb
  simp only [List.getElem?_toArray, List.getElem?_cons_zero, List.getElem?_cons_succ] at c0 c1
  clear hxb
  by_cases hlt : m < n
  rotate_left
  ·have HF := Lib.hid (all_range_yes (p := Princ l) (n := n) (fun i hi => HR.out i (by omega)))
   have hge : ¬ ((m : Int) < (n : Int)) := by omega
   go_wp2
   go_ret
   exact ⟨by rw [HF.out]; rfl, HB.out.trans (HBr.out.mono HB.out.size)⟩
  obtain ⟨k, hkm⟩ : ∃ k, m = k + 1 := ⟨m - 1, by omega⟩
  obtain ⟨b, off, hao, hb, ho⟩ := HO.out.2 m hlt
  have HAo := Lib.hid hao
  subst hao
  obtain ⟨b', off', hao', hb', ho'⟩ := HO.out.2 k (by omega)
  have e := HAo.out.symm.trans hao'
  injection e with e
  injection e with e1 e2
  subst e1 e2
  clear hao' hb'
  have HOk : Hid (PrAt w0 b (off + m * 2) (atPr l m)) := ho
  have HOj : Hid (PrAt w0 b (off + k * 2) (atPr l k)) := ho'
  clear ho ho'
  have HIk : Hid (Princ l m = ltS (atPr l k).item (atPr l m).item) := by subst hkm; rfl
  have HN := Lib.hid (fun h => all_range_no (p := Princ l) (n := n) (i := m) hlt h)
  generalize atPr l m = x at HOk HIk
  generalize atPr l k = z at HOj HIk
  obtain ⟨d0, d1⟩ := HOk.out.kept (HBr.out.block b (by omega))
  obtain ⟨e0, e1⟩ := HOj.out.kept (HBr.out.block b (by omega))
  have hgr := (HBr.out.cell (p := ⟨g, 0, none⟩) (by show g < w0.heap.size; omega)).trans HG.out
  have im : IntKind.i64.wrap ((m : Int) - 1) = (k : Int) := (IntWalk.i64_in _ (by omega)).trans (by omega)
  have i1 : (k : Int) < (n : Int) := by omega
  have i2 : (m : Int) < (n : Int) := by omega
  clear hkm
  have hS : wr.drew.cell? ⟨b, off + m * 2, none⟩ = some (.string x.item) ∧ wr.drew.cell? ⟨b, off + m * 2 + 1, none⟩ = some (.int .i64 x.cents) ∧ wr.drew.cell? ⟨b, off + k * 2, none⟩ = some (.string z.item) ∧ wr.drew.cell? ⟨b, off + k * 2 + 1, none⟩ = some (.int .i64 z.cents) ∧ wr.drew.cell? ⟨w.heap.size, 0, none⟩ = some (.slice (some ⟨b, off, none⟩) n c) ∧ wr.drew.cell? ⟨w.heap.size, 1, none⟩ = some (.func (.func 83) #[] #[.pointer (some ⟨g, 0, none⟩)]) ∧ wr.drew.cell? ⟨g, 0, none⟩ = some (.func (.func 56) #[] #[]) := ⟨d0, d1, e0, e1, c0, c1, hgr⟩
  have hblt := block_lt_of_cell d0
  have hbx := block_lt_of_cell c0
  go_wp2_with fail
  go_region_held3 (fun w' => w'.cell? ⟨b, off + m * 2, none⟩ = some (.string x.item) ∧ w'.cell? ⟨b, off + m * 2 + 1, none⟩ = some (.int .i64 x.cents) ∧ w'.cell? ⟨b, off + k * 2, none⟩ = some (.string z.item) ∧ w'.cell? ⟨b, off + k * 2 + 1, none⟩ = some (.int .i64 z.cents) ∧ w'.cell? ⟨w.heap.size, 0, none⟩ = some (.slice (some ⟨b, off, none⟩) n c) ∧ w'.cell? ⟨w.heap.size, 1, none⟩ = some (.func (.func 83) #[] #[.pointer (some ⟨g, 0, none⟩)]) ∧ w'.cell? ⟨g, 0, none⟩ = some (.func (.func 56) #[] #[])) (first | with_reducible exact hS | with_reducible exact hS2)
   (first | (go_at_call 83; refine (Prord z x g _ hS.2.2.2.2.2.2).mono ?_; rintro e w2 ⟨rfl, hb2⟩; have ⟨q0, q1, q2, q3, q4, q5, q6⟩ := hS; have hS2 : w2.cell? ⟨b, off + m * 2, none⟩ = some (.string x.item) ∧ w2.cell? ⟨b, off + m * 2 + 1, none⟩ = some (.int .i64 x.cents) ∧ w2.cell? ⟨b, off + k * 2, none⟩ = some (.string z.item) ∧ w2.cell? ⟨b, off + k * 2 + 1, none⟩ = some (.int .i64 z.cents) ∧ w2.cell? ⟨w.heap.size, 0, none⟩ = some (.slice (some ⟨b, off, none⟩) n c) ∧ w2.cell? ⟨w.heap.size, 1, none⟩ = some (.func (.func 83) #[] #[.pointer (some ⟨g, 0, none⟩)]) ∧ w2.cell? ⟨g, 0, none⟩ = some (.func (.func 56) #[] #[]) := ⟨(hb2.cell (block_lt_of_cell q0)).trans q0, (hb2.cell (block_lt_of_cell q1)).trans q1, (hb2.cell (block_lt_of_cell q2)).trans q2, (hb2.cell (block_lt_of_cell q3)).trans q3, (hb2.cell (block_lt_of_cell q4)).trans q4, (hb2.cell (block_lt_of_cell q5)).trans q5, (hb2.cell (block_lt_of_cell q6)).trans q6⟩; clear q0 q1 q2 q3 q4 q5 q6))
  clear hS hS2
  have HB2 := Lib.hid (HBr.out.trans ((Below.mk hb2.os hb2.tape hb2.output hb2.size hb2.block : Below wr.heap.size wr w2).mono HBr.out.size))
  clear hb2 d0 d1 e0 e1 c0 c1 hgr
  have HYn := Lib.hid (@cmp_yes z.item x.item)
  have HNn := Lib.hid (@cmp_no z.item x.item)
  generalize cmpS z.item x.item = cm at HYn HNn ⊢
  by_cases hm : 0 ≤ cm
  ·have HF := Lib.hid (HN.out (HIk.out.trans (HNn.out hm)))
   go_wp2
   go_ret
   exact ⟨by rw [HF.out]; rfl, HB.out.trans (HB2.out.mono HB.out.size)⟩
  have HF := Lib.hid (allp_stepS HR.out (HIk.out.trans (HYn.out (by omega))))
  go_wp2
  go_roundw
  case rel => exact ⟨m + 1, by omega, by omega, by go_num, HF, HB2⟩
  case measure => simp [intOf]; omega
theorem Prnot (o : PrV) (g : Nat) (w : World) (hg : w.cell? ⟨g, 0, none⟩ = some (.func (.func 32) #[] #[])) : Calls Tryz.prog 54 #[.agg #[.string o.item, .int .i64 o.cents], .pointer (some ⟨g, 0, none⟩)] w fun e w' => e = .returned (.bool (!o.ok)) ∧ Below w.heap.size w w' := by
 have HK := Lib.hid (fun W => implProk o W)
 generalize o.ok = ok at HK ⊢
 obtain ⟨item, cents⟩ := o
 simp only at HK ⊢
 have hb0 : Below w.heap.size w (w.alloc (.cells #[.string item, .int .i64 cents] 63)) := (Below.refl _ w).alloc (Nat.le_refl _) _
 have HB := Lib.hid hb0
 have hg2 := (hb0.cell (p := ⟨g, 0, none⟩) (block_lt_of_cell hg)).trans hg
 clear hg hb0
 go_enter Tryz.func54, Tryz.ntmps54
 go_wp2_with fail
 refine (HK.out _).mono ?_
 rintro e w1 ⟨rfl, hb1⟩
 have HB1 := Lib.hid (HB.out.trans (hb1.mono HB.out.size))
 clear hb1
 go_wp2
 go_ret
 exact ⟨rfl, HB1.out⟩
set_option maxHeartbeats 5000000 in
theorem Prindex (w : World) (B : Nat) (a : Option Addr) (n c g : Nat) (l : List PrV) (h : Prs w B a n l) (hB : B ≤ w.heap.size) (hn : n ≤ 1048576) (hg : w.cell? ⟨g, 0, none⟩ = some (.func (.func 32) #[] #[])) : Calls Tryz.prog 82 #[.slice a n c, .func (.func 54) #[] #[.pointer (some ⟨g, 0, none⟩)]] w fun e w' => (∃ z : Int, e = .returned (.int .i64 z) ∧ (decide (0 ≤ z)) = !((List.range n).all (Prok l))) ∧ Below w.heap.size w w' := by
 have H := Lib.hid h
 have HG := Lib.hid hg
 have hglt := block_lt_of_cell hg
 clear h hg
 go_enter Tryz.func82, Tryz.ntmps82
 go_wp2
 go_loopw [5, 8] (fun _ i wr => ∃ k : Nat, k ≤ n ∧ i = .int .i64 k ∧ Hid (∀ i, i < k → Prok l i = true) ∧ Hid (Below w.heap.size w wr)) (fun _ i _ => n - (intOf i).toNat)
 case atStart => exact ⟨0, Nat.zero_le _, rfl, fun i hi => by omega, Below.refl _ _⟩
 case round =>
  obtain ⟨k, hk, rfl, HR, HBr⟩ := hrel
  by_cases hlt : k < n
  ·obtain ⟨b, off, rfl, hb, ho⟩ := H.out.2 k hlt
   obtain ⟨c0, c1⟩ := ho.kept (HBr.out.block b (by omega))
   clear ho
   have hgr := (HBr.out.cell (p := ⟨g, 0, none⟩) hglt).trans HG.out
   obtain ⟨x, hx⟩ : ∃ x, l.getD k PrV.zero = x := ⟨_, rfl⟩
   have HK : Hid (Prok l k = x.ok) := by show (atPr l k).ok = _; unfold atPr; rw [hx]
   rw [hx] at c0 c1
   clear hx
   have HN := Lib.hid (fun W h => Prnot x g W h)
   obtain ⟨item, cents⟩ := x
   simp only at c0 c1 HN
   go_wp2_with fail
   refine (HN.out _ hgr).mono ?_
   rintro e w1 ⟨rfl, hb1⟩
   have HB1 := Lib.hid (HBr.out.trans (hb1.mono HBr.out.size))
   clear hb1 c0 c1 hgr
   generalize hxo : PrV.ok { item := item, cents := cents } = ok at HK ⊢
   clear hxo HN
   rcases ok with _ | _
   ·have HF := Lib.hid (all_range_no (p := Prok l) (n := n) hlt HK.out)
    go_wp2
    go_ret
    exact ⟨⟨(k : Int), rfl, by rw [HF.out, decide_eq_true (by omega)]; rfl⟩, HB1.out⟩
   ·have HS := Lib.hid (allp_stepS HR.out HK.out)
    go_wp2
    go_roundw
    case rel => exact ⟨k + 1, by omega, by go_num, HS, HB1⟩
    case measure => simp [intOf]; omega
  ·obtain rfl : k = n := by omega
   have HF := Lib.hid (all_range_yes (p := Prok l) (n := k) HR.out)
   go_wp2
   go_ret
   exact ⟨⟨-1, rfl, by rw [HF.out]; rfl⟩, HBr.out⟩
theorem Prcontains (w : World) (B : Nat) (a : Option Addr) (n c g : Nat) (l : List PrV) (h : Prs w B a n l) (hB : B ≤ w.heap.size) (hn : n ≤ 1048576) (hg : w.cell? ⟨g, 0, none⟩ = some (.func (.func 32) #[] #[])) : Calls Tryz.prog 53 #[.slice a n c, .func (.func 54) #[] #[.pointer (some ⟨g, 0, none⟩)]] w fun e w' => e = .returned (.bool (!((List.range n).all (Prok l)))) ∧ Below w.heap.size w w' := by
 go_enter Tryz.func53, Tryz.ntmps53
 go_wp2_with fail
 refine (Prindex w B a n c g l h hB hn hg).mono ?_
 rintro e w1 ⟨⟨z, rfl, hz⟩, hb1⟩
 have HZ := Lib.hid hz
 have HB1 := Lib.hid hb1
 clear hb1 hz
 go_wp2
 go_ret
 exact ⟨by rw [← HZ.out]; rfl, HB1.out⟩
set_option maxHeartbeats 5000000 in
theorem PrsortedOk (w : World) (B : Nat) (a : Option Addr) (n c g : Nat) (l : List PrV) (h : Prs w B a n l) (hB : B ≤ w.heap.size) (hn : n ≤ 1048576) (hg : w.cell? ⟨g, 0, none⟩ = some (.func (.func 56) #[] #[])) : Calls Tryz.prog 30 #[.agg #[.slice a n c, .func (.func 83) #[] #[.pointer (some ⟨g, 0, none⟩)]], .int .i64 50, .func (.func 32) #[] #[]] w fun e w' => e = .returned (.bool (PrsB l)) ∧ Below w.heap.size w w' := by
 have hl : l.length = n := h.1
 have HD : Hid (PrsB l = sortB n (Prok l) (Princ l)) := by show PrsB l = _; unfold PrsB; rw [hl]
 have hb0 : Below w.heap.size w ((w.alloc (.cells #[.slice a n c, .func (.func 83) #[] #[.pointer (some ⟨g, 0, none⟩)]] 68)).alloc (.cells #[.func (.func 32) #[] #[]] 70)) := ((Below.refl _ w).alloc (Nat.le_refl _) _).alloc (by show _ ≤ (w.heap.push _).size; simp) _
 have HO := Lib.hid (h.below hb0 hB)
 have HB := Lib.hid hb0
 have HG := Lib.hid ((hb0.cell (p := ⟨g, 0, none⟩) (block_lt_of_cell hg)).trans hg)
 have HX : Hid (((w.alloc (.cells #[.slice a n c, .func (.func 83) #[] #[.pointer (some ⟨g, 0, none⟩)]] 68)).alloc (.cells #[.func (.func 32) #[] #[]] 70)).heap[w.heap.size]? = some (.cells #[.slice a n c, .func (.func 83) #[] #[.pointer (some ⟨g, 0, none⟩)]] 68 (0, 0))) := heap_alloc2_old _ _ _
 have HY : Hid (((w.alloc (.cells #[.slice a n c, .func (.func 83) #[] #[.pointer (some ⟨g, 0, none⟩)]] 68)).alloc (.cells #[.func (.func 32) #[] #[]] 70)).heap[w.heap.size + 1]? = some (.cells #[.func (.func 32) #[] #[]] 70 (0, 0))) := heap_alloc2_new _ _ _
 have hsz : w.heap.size + 2 ≤ ((w.alloc (.cells #[.slice a n c, .func (.func 83) #[] #[.pointer (some ⟨g, 0, none⟩)]] 68)).alloc (.cells #[.func (.func 32) #[] #[]] 70)).heap.size := by show _ ≤ ((w.heap.push _).push _).size; simp
 clear h hb0 hg hl
 by_cases h50 : n ≤ 50
 rotate_left
 ·have HF := Lib.hid (sort_long (ok := Prok l) (inc := Princ l) h50)
  have c0 := cell_of_row _ _ 0 _ _ _ HX.out
  simp only [List.getElem?_toArray, List.getElem?_cons_zero, List.getElem?_cons_succ] at c0
  have hgt : ((n : Int) > 50) := by omega
  go_enter Tryz.func30, Tryz.ntmps30
  go_wp2
  go_ret
  exact ⟨by rw [HD.out, HF.out]; rfl, HB.out⟩
 have c0 := cell_of_row _ _ 0 _ _ _ HX.out
 have c1 := cell_of_row _ _ 1 _ _ _ HX.out
 simp only [List.getElem?_toArray, List.getElem?_cons_zero, List.getElem?_cons_succ] at c0 c1
 go_enter Tryz.func30, Tryz.ntmps30
 go_wp2_with fail
 refine (Princ_walk _ B a n c g l HO.out (by omega) hn HG.out).mono ?_
 rintro e w1 ⟨rfl, hb1⟩
 have HO1 := Lib.hid (HO.out.below hb1 (by omega))
 have HB1 := Lib.hid (HB.out.trans (hb1.mono HB.out.size))
 have HX1 := Lib.hid ((hb1.block _ (by omega)).trans HX.out)
 have HY1 := Lib.hid ((hb1.block _ (by omega)).trans HY.out)
 have hs1 := hb1.size
 clear hb1 c0 c1 HX HY HO HG HB
 rcases hinc : (List.range n).all (Princ l) with _ | _
 ·have HF := Lib.hid (sort_inc (ok := Prok l) hinc)
  go_wp2
  go_ret
  exact ⟨by rw [HD.out, HF.out]; rfl, HB1.out⟩
 have HF := Lib.hid (sort_rest (ok := Prok l) hinc h50)
 clear hinc
 have d0 := cell_of_row _ _ 0 _ _ _ HX1.out
 have d1 := cell_of_row _ _ 0 _ _ _ HY1.out
 simp only [List.getElem?_toArray, List.getElem?_cons_zero, List.getElem?_cons_succ] at d0 d1
 have hmf : ∀ (fn : Fn) (first cap : Array Value) (w : World), (Instr.makeFunc fn first cap).run Tryz.prog w = .ok (.func fn first cap) w := fun _ _ _ _ => rfl
 go_wp2_with fail
 refine (Prcontains _ B a n c (w.heap.size + 1) l HO1.out (by omega) hn d1).mono ?_
 rintro e w2 ⟨rfl, hb2⟩
 have HB2 := Lib.hid (HB1.out.trans (hb2.mono HB1.out.size))
 clear hb2 d0 d1
 go_wp2
 go_ret
 exact ⟨by rw [HD.out, HF.out]; rfl, HB2.out⟩
set_option maxHeartbeats 5000000 in
theorem PrbyItem (w : World) (a : Option Addr) (n c : Nat) : Calls Tryz.prog 55 #[.slice a n c, .func (.func 56) #[] #[]] w fun e w' => e = .returned (.agg #[.slice a n c, .func (.func 83) #[] #[.pointer (some ⟨w.heap.size, 0, none⟩)]]) ∧ w'.cell? ⟨w.heap.size, 0, none⟩ = some (.func (.func 56) #[] #[]) ∧ Below w.heap.size w w' := by
 have hmf : ∀ (fn : Fn) (first cap : Array Value) (w : World), (Instr.makeFunc fn first cap).run Tryz.prog w = .ok (.func fn first cap) w := fun _ _ _ _ => rfl
 go_enter Tryz.func55, Tryz.ntmps55
 go_wp2
 refine bodyPost_ret (v := .agg #[.slice a n c, .func (.func 83) #[] #[.pointer (some ⟨w.heap.size, 0, none⟩)]]) (by simp [results, Tryz.results55, go_sem]) rfl ⟨rfl, (cell_of_row _ _ 0 _ _ _ (heap_alloc2_old _ _ _)).trans rfl, ((Below.refl _ w).alloc (Nat.le_refl _) _).alloc (by show _ ≤ (w.heap.push _).size; simp) _⟩
set_option maxHeartbeats 5000000 in
theorem Prlist (w : World) (a : Option Addr) (n c : Nat) : Calls Tryz.prog 31 #[.slice a n c] w fun e w' => (∃ g, e = .returned (.agg #[.slice a n c, .func (.func 83) #[] #[.pointer (some ⟨g, 0, none⟩)]]) ∧ w'.cell? ⟨g, 0, none⟩ = some (.func (.func 56) #[] #[])) ∧ Below w.heap.size w w' := by
 have hmf : ∀ (fn : Fn) (first cap : Array Value) (w : World), (Instr.makeFunc fn first cap).run Tryz.prog w = .ok (.func fn first cap) w := fun _ _ _ _ => rfl
 go_enter Tryz.func31, Tryz.ntmps31
 go_wp2_with fail
 refine (PrbyItem _ a n c).mono ?_
 rintro e w1 ⟨rfl, hc, hb1⟩
 have hx := (hb1.block _ (by show _ < (w.heap.push _).size; simp)).trans (heap_alloc_new w (.cells #[.slice none 0 0, .nilFunc] 68))
 have c0 := (cell_of_row _ _ 0 _ _ _ hx).trans rfl
 have c1 := (cell_of_row _ _ 1 _ _ _ hx).trans rfl
 have f0 : w1.frozen? ⟨w.heap.size, 0, none⟩ = false := frozen_of_row _ _ _ _ _ hx
 have f1 : w1.frozen? ⟨w.heap.size, 1, none⟩ = false := frozen_of_row _ _ _ _ _ hx
 have hs1 : (w.alloc (.cells #[.slice none 0 0, .nilFunc] 68)).heap.size = w.heap.size + 1 := by show (w.heap.push _).size = _; simp
 rw [hs1] at hc ⊢
 have hx2 := heap_setCell_same _ _ 1 _ _ (.func (.func 83) #[] #[.pointer (some ⟨w.heap.size + 1, 0, none⟩)]) (heap_setCell_same _ _ 0 _ _ (.slice a n c) hx)
 have HX := Lib.hid hx2
 have HC : Hid (((w1.setCell ⟨w.heap.size, 0, none⟩ (.slice a n c)).setCell ⟨w.heap.size, 1, none⟩ (.func (.func 83) #[] #[.pointer (some ⟨w.heap.size + 1, 0, none⟩)])).cell? ⟨w.heap.size + 1, 0, none⟩ = some (.func (.func 56) #[] #[])) := (World.cell?_of_block (a := ⟨w.heap.size + 1, 0, none⟩) ((heap_setCell_other _ _ _ _ (by show w.heap.size + 1 ≠ w.heap.size; omega)).trans (heap_setCell_other _ _ _ _ (by show w.heap.size + 1 ≠ w.heap.size; omega)))).trans hc
 have HB : Hid (Below w.heap.size w ((w1.setCell ⟨w.heap.size, 0, none⟩ (.slice a n c)).setCell ⟨w.heap.size, 1, none⟩ (.func (.func 83) #[] #[.pointer (some ⟨w.heap.size + 1, 0, none⟩)]))) := ((((Below.refl _ w).alloc (Nat.le_refl _) _).trans (hb1.mono (by omega))).setCell (p := ⟨w.heap.size, 0, none⟩) (Nat.le_refl _) _).setCell (p := ⟨w.heap.size, 1, none⟩) (Nat.le_refl _) _
 clear hx hx2 hb1 hc hs1
 go_wp2
 generalize (w1.setCell ⟨w.heap.size, 0, none⟩ (.slice a n c)).setCell ⟨w.heap.size, 1, none⟩ (.func (.func 83) #[] #[.pointer (some ⟨w.heap.size + 1, 0, none⟩)]) = wf at HX HC HB ⊢
 have d0 := (cell_of_row _ _ 0 _ _ _ HX.out).trans rfl
 have d1 := (cell_of_row _ _ 1 _ _ _ HX.out).trans rfl
 exact bodyPost_ret (v := .agg #[.slice a n c, .func (.func 83) #[] #[.pointer (some ⟨w.heap.size + 1, 0, none⟩)]]) (by simp [results, Tryz.results31, go_sem, d0, d1]) rfl ⟨⟨w.heap.size + 1, rfl, HC.out⟩, HB.out⟩
theorem implPricesOk (w : World) (B : Nat) (a : Option Addr) (n c : Nat) (l : List PrV) (h : Prs w B a n l) (hB : B ≤ w.heap.size) (hn : n ≤ 1048576) : Calls Tryz.prog 14 #[.slice a n c] w fun e w' => e = .returned (.bool (PrsB l)) ∧ Below w.heap.size w w' := by
 have H := Lib.hid h
 clear h
 go_enter Tryz.func14, Tryz.ntmps14
 go_wp2_with fail
 refine (Prlist w a n c).mono ?_
 rintro e w1 ⟨⟨g, rfl, hc⟩, hb1⟩
 have H1 := Lib.hid (H.out.below hb1 hB)
 have HB1 := Lib.hid hb1
 have HC := Lib.hid hc
 have hs1 := hb1.size
 clear hb1 hc
 go_wp2_with fail
 refine (PrsortedOk w1 B a n c g l H1.out (by omega) hn HC.out).mono ?_
 rintro e w2 ⟨rfl, hb2⟩
 have HB2 := Lib.hid (HB1.out.trans (hb2.mono HB1.out.size))
 clear hb2
 go_wp2
 go_ret
 exact ⟨rfl, HB2.out⟩
end Go.Proofs.YtgagchlcafdiaaaGreat
