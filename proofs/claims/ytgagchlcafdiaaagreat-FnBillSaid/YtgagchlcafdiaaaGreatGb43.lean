/- Walks and mathematics that several claims share, part 43. -/
import Derived.Test.YtgagchlcafdiaaaGreatGb23
import Derived.Test.YtgagchlcafdiaaaGreatGb10
import Derived.Laws.AppendOwn
import Derived.Laws.OwnMore
import Derived.Deep.Cut
import Derived.Test.YtgagchlcafdiaaaGreatGbA
namespace Go.Proofs.YtgagchlcafdiaaaGreat
set_option maxRecDepth 100000
open Go.RowKit
set_option linter.unusedVariables false
set_option linter.unusedSimpArgs false
set_option linter.unusedVariables false
set_option linter.unusedSimpArgs false

theorem off99 (w : World) (B g : Nat) (a : Option Addr) (len cap : Nat) (h : Rd w B g a len cap) :
  Calls Tryz.prog 40 #[.pointer (some ⟨g, 0, none⟩), .int .i64 1, .int .i64 99] w (YieldsInt .i64 w B g a len cap) := rdOff w B g a len cap h 1 99 (by omega) (by omega) (by omega)
def ofCells : List OfV → List Value
 | [] => []
 | x :: l => [.string x.item, .int .i64 x.buy, .int .i64 x.free] ++ ofCells l
theorem ofCells_snoc (x : OfV) : ∀ l, ofCells (l ++ [x]) = ofCells l ++ [.string x.item, .int .i64 x.buy, .int .i64 x.free]
 | [] => rfl
 | y :: l => by show [Value.string y.item, .int .i64 y.buy, .int .i64 y.free] ++ ofCells (l ++ [x]) = ([Value.string y.item, .int .i64 y.buy, .int .i64 y.free] ++ ofCells l) ++ _; rw [ofCells_snoc x l, List.append_assoc]
theorem ofCells_at : ∀ (l : List OfV) (i : Nat), i < l.length → (ofCells l)[i * 3]? = some (.string (l.getD i OfV.zero).item) ∧ (ofCells l)[i * 3 + 1]? = some (.int .i64 (l.getD i OfV.zero).buy) ∧ (ofCells l)[i * 3 + 2]? = some (.int .i64 (l.getD i OfV.zero).free)
 | x :: l, 0, _ => ⟨rfl, rfl, rfl⟩
 | x :: l, i + 1, h => by
  have := ofCells_at l i (by simpa using h)
  have e : (i + 1) * 3 = i * 3 + 3 := by omega
  rw [e]
  exact this
theorem Tryz.infoOffer : (Tryz.prog.info? 59).map (fun i => (i.zero, i.size, i.bytes)) = some (some (.agg #[.string ⟨#[]⟩, .int .i64 0, .int .i64 0]), 3, 32) := by kernel_rfl
/-- A loop of the reader that gathers offers: k of them are there. -/
structure OInv (w wr : World) (B g : Nat) (a : Option Addr) (len cap : Nat) (v : Value) (k : Nat) (l : List OfV) : Prop where
 own : wr.ownsRow w.heap.size 59 3 v k (ofCells l)
 num : l.length = k
 grown : w.grownBy wr (some g)
 rd : Rd wr B g a len cap
 glt : g < w.heap.size
 items : ∀ i, i < k → (l.getD i OfV.zero).item.size ≤ 8
theorem OInv.step {w wr w1 : World} {B g : Nat} {a : Option Addr} {len cap : Nat} {v : Value} {k : Nat} {l : List OfV} (h : OInv w wr B g a len cap v k l) (hg : wr.grownBy w1 (some g)) (hr : Rd w1 B g a len cap) : OInv w w1 B g a len cap v k l :=
 ⟨h.own.kept hg (by
  rcases hv : v.ownBlock with _ | q
  ·exact .inl rfl
  ·exact .inr (fun e => by have := (h.own.lt q hv).1; have := h.glt; have : q = g := by simpa using e
                           omega)), h.num, h.grown.trans hg, hr, h.glt, h.items⟩
theorem OInv.alloc {w wr : World} {B g : Nat} {a : Option Addr} {len cap : Nat} {v : Value} {k : Nat} {l : List OfV} (h : OInv w wr B g a len cap v k l) (ob : Obj) : OInv w (wr.alloc ob) B g a len cap v k l :=
 ⟨h.own.alloc ob, h.num, h.grown.trans (World.grownBy_alloc wr ob (some g)), h.rd.grown (World.grownBy_alloc wr ob none) (fun k hk => by cases hk), h.glt, h.items⟩
theorem OInv.drew {w wr : World} {B g : Nat} {a : Option Addr} {len cap : Nat} {v : Value} {k : Nat} {l : List OfV} (h : OInv w wr B g a len cap v k l) : OInv w wr.drew B g a len cap v k l :=
 h.step ⟨rfl, rfl, rfl, Nat.le_refl _, fun _ _ _ => rfl⟩ (h.rd.kept fun _ _ => rfl)
theorem OInv.push {w z : World} {B g : Nat} {a : Option Addr} {len cap : Nat} {v : Value} {k : Nat} {l : List OfV} (h : OInv w z B g a len cap v k l) (it : ByteArray) (X Y : Int) (hit : it.size ≤ 8) (hk : k ≤ 100) :
  ∃ va vc z3, (Builtin.append_ #[26, 26] 26 #[v, .slice (some ⟨z.heap.size, 0, none⟩) 1 1]).run Tryz.prog (z.alloc (.cells #[.string it, .int .i64 X, .int .i64 Y] 59)) = .ok (.slice va (k + 1) vc) z3 ∧ OInv w z3 B g a len cap (.slice va (k + 1) vc) (k + 1) (l ++ [⟨it, X, Y⟩]) := by
 obtain ⟨i0, hi, hz0, hz1, hz2⟩ := info_parts Tryz.infoOffer
 have h2 := h.alloc (.cells #[.string it, .int .i64 X, .int .i64 Y] 59)
 have hsz := h.grown.size
 obtain ⟨v', z3, hrun, hown, hgr, _⟩ := run_append_own (P := Tryz.prog) (z.alloc (.cells #[.string it, .int .i64 X, .int .i64 Y] 59)) w.heap.size 26 26 59 i0 (.agg #[.string ⟨#[]⟩, .int .i64 0, .int .i64 0]) 3 32 Tryz.underlying26 hi hz0 hz1 hz2 rfl (by decide) v k (ofCells l) h2.own ⟨z.heap.size, 0, none⟩ 1 1 [.string it, .int .i64 X, .int .i64 Y] rfl
  (by
   have hn := heap_alloc_new z (.cells #[.string it, .int .i64 X, .int .i64 Y] 59)
   intro j u hj
   match j, hj with
   | 0, hj => simp at hj; subst hj; exact (cell_of_row _ _ _ _ _ _ hn).trans rfl
   | 1, hj => simp at hj; subst hj; simp only [Addr.add]; exact (cell_of_row _ _ _ _ _ _ hn).trans rfl
   | 2, hj => simp at hj; subst hj; simp only [Addr.add]; exact (cell_of_row _ _ _ _ _ _ hn).trans rfl)
  (by intro u hu; simp at hu; rcases hu with rfl | rfl | rfl <;> rfl) (by unfold maxLen; omega) (by omega) (by show _ ≤ (z.heap.push _).size; simp; omega)
 obtain ⟨va, vc, rfl⟩ : ∃ va vc, v' = .slice va (k + 1) vc := by
  rcases hown.2 with ⟨_, e2⟩ | ⟨_, c2, _, e2, _⟩
  ·omega
  ·exact ⟨_, c2, e2⟩
 have hrl : ∀ q, v.ownBlock = some q → w.heap.size ≤ q := fun q hq => (h2.own.lt q hq).1
 have hgl := h.glt
 have hB := h.rd.own
 refine ⟨va, vc, z3, hrun, by rw [ofCells_snoc]; exact hown, by rw [List.length_append, h.num]; rfl, grownBy_own h2.grown hgr hrl, h2.rd.grown hgr (fun q hq => by have := hrl q hq; omega), h.glt, fun i hi' => ?_⟩
 rcases Nat.lt_or_ge i k with q | q
 ·rw [List.getD_eq_getElem?_getD, List.getElem?_append_left (by rw [h.num]; exact q), ← List.getD_eq_getElem?_getD]
  exact h.items i q
 ·obtain rfl : i = k := by omega
  rw [List.getD_eq_getElem?_getD, List.getElem?_append_right (by rw [h.num]; exact Nat.le_refl _), h.num]
  simpa using hit
theorem OInv.form {w wr : World} {B g : Nat} {a : Option Addr} {len cap : Nat} {v : Value} {k : Nat} {l : List OfV} (h : OInv w wr B g a len cap v k l) : ∃ va vc, v = .slice va k vc ∧ (0 < k → ∃ q, va = some ⟨q, 0, none⟩) := by
 rcases h.own.2 with ⟨e, e2⟩ | ⟨q, c, _, e, _⟩
 ·subst e2; exact ⟨none, 0, e, fun h => absurd h (by omega)⟩
 ·exact ⟨_, c, e, fun _ => ⟨q, rfl⟩⟩
theorem opwpO {P : Program} {o : Oper} {a : Act} {w : World} {K : Act → World → Prop} {Q : Exit → Act → World → Prop} (x y : Operand) (ts : Array TypeId) (hop : o.op = Op.call { callee := Callee.builtin Builtin.append, args := #[x, y], argTypes := ts }) (v1 v2 : Value) {v' : Value} {w' : World} (h1 : a.eval x = v1) (h2 : a.eval y = v2)
  (hrun : (Builtin.append_ ts o.type #[v1, v2]).run P w = .ok v' w') (hK : K (a.put o.dst v') w') : Oper.wp P o a w K Q := by
 unfold Oper.wp
 simp [execOp, hop, resolve, invoke, builtin, h1, h2, hrun, Result.andThen]
 exact hK
theorem OInv.store {w z : World} {B g q c k : Nat} {a : Option Addr} {len cap : Nat} {x : OfV} {l : List OfV} (h : OInv w z B g a len cap (.slice (some ⟨q, 0, none⟩) (k + 1) c) (k + 1) (x :: l)) (X : Int) :
  OInv w (z.setCell ⟨q, 1, none⟩ (.int .i64 X)) B g a len cap (.slice (some ⟨q, 0, none⟩) (k + 1) c) (k + 1) (⟨x.item, X, x.free⟩ :: l) ∧ (∃ v, z.cell? ⟨q, 1, none⟩ = some v) ∧ z.frozen? ⟨q, 1, none⟩ = false := by
 obtain ⟨h1, h2⟩ := h.own.stored 1 (.int .i64 X)
 have hq : w.heap.size ≤ q := (h.own.lt q rfl).1
 have hgl := h.glt
 have hB := h.rd.own
 refine ⟨⟨h1, by have := h.num; simpa using this, grownBy_own h.grown h2 (fun k hk => by cases hk; exact hq), h.rd.grown h2 (fun k hk => by cases hk; omega), h.glt, fun i hi => ?_⟩, ⟨_, (h.own.cellAt 1 (by omega)).trans rfl⟩, h.own.frozenAt 1⟩
 match i with
 | 0 => exact h.items 0 (by omega)
 | i + 1 => exact h.items (i + 1) hi
def strs4 : Obj := .cells #[.string ⟨#[101, 103, 103]⟩, .string ⟨#[109, 105, 108, 107]⟩, .string ⟨#[111, 97, 116]⟩, .string ⟨#[116, 101, 97]⟩] 9
theorem strs4_at {w : World} {b i : Nat} (h : w.heap[b]? = some strs4) (hi : i < 4) : ∃ t : ByteArray, t.size ≤ 8 ∧ w.cell? ⟨b, i, none⟩ = some (.string t) := by
 have e := cell_of_row w b i _ _ _ h
 match i, hi with
 | 0, _ => exact ⟨_, by decide, e⟩
 | 1, _ => exact ⟨_, by decide, e⟩
 | 2, _ => exact ⟨_, by decide, e⟩
 | 3, _ => exact ⟨_, by decide, e⟩
/-- What the reader's offers leave. -/
def YieldsOffers (w : World) (B g : Nat) (a : Option Addr) (len cap : Nat) (e : Ending) (w' : World) : Prop :=
 ∃ (va : Option Addr) (k vc : Nat) (l : List OfV), k ≤ 4 ∧ e = .returned (.slice va k vc) ∧ OInv w w' B g a len cap (.slice va k vc) k l
set_option maxHeartbeats 20000000 in
theorem offers (w : World) (B g : Nat) (a : Option Addr) (len cap : Nat) (h : Rd w B g a len cap) :
  Calls Tryz.prog 20 #[.pointer (some ⟨g, 0, none⟩)] w (YieldsOffers w B g a len cap) := by
 have hI0 : OInv w (w.alloc (.cells #[] 59)) B g a len cap (.slice (some ⟨w.heap.size, 0, none⟩) 0 0) 0 [] :=
  ⟨World.ownsRow_made (e := 59) (size := 3) w #[] 0 (Nat.le_refl w.heap.size) (by unfold maxLen; omega) rfl, rfl, World.grownBy_alloc w _ (some g), h.grown (World.grownBy_alloc w _ none) (fun k hk => by cases hk), h.lt, fun i hi => absurd hi (by omega)⟩
 have HI0 := Lib.hid hI0
 clear hI0 h
 go_enter Tryz.func20, Tryz.ntmps20
 go_wp2
 go_loopw [3, 4] (fun v i wr => ∃ (k j vc : Nat) (va : Option Addr) (l : List OfV), j ≤ 4 ∧ k ≤ j ∧ v = .slice va k vc ∧ i = .int .i64 (j : Int) ∧ Hid (OInv w wr B g a len cap (.slice va k vc) k l)) (fun _ i _ => 4 - (intOf i).toNat)
 case atStart => exact ⟨0, 0, 0, some ⟨w.heap.size, 0, none⟩, [], by omega, by omega, rfl, rfl, HI0.out⟩
 case round =>
  obtain ⟨k, j, vc, va, l, hj, hkj, rfl, rfl, HI⟩ := hrel
  by_cases hlt : j < 4
  ·have hji : (j : Int) < 4 := by omega
   have hj0 : (0 : Int) ≤ (j : Int) := by omega
   go_wp2_with fail
   refine (once wr B g a len cap HI.out.rd 2 (by omega) (by omega)).mono ?_
   rintro e w1 ⟨o1, rfl, hg1, hr1⟩
   have HI1 := Lib.hid (HI.out.step hg1 hr1)
   clear hg1 hr1 HI
   rcases o1 with _ | _
   ·go_wp2
    go_roundw
    case rel => exact ⟨k, j + 1, vc, va, l, by omega, by omega, rfl, by go_num, HI1⟩
    case measure => simp [intOf]; omega
   go_upto_region 6 with fail
   rename_i KR hKR
   obtain ⟨z0, hz0e⟩ : ∃ z0, w1.drew = z0 := ⟨_, rfl⟩
   have HIz0 : Hid (OInv w z0 B g a len cap (.slice va k vc) k l) := by rw [← hz0e]; exact HI1.out.drew
   clear HI1
   refine wp_region_held_drew (S := fun w' => True) (by kernel_rfl) trivial (fun hHeld => ?_)
   rw [hz0e]
   clear hHeld hz0e
   have hT : True := trivial
   refine tj 0 ?_
   refine tj 2 ?_
   refine tj 5 ?_
   refine tj 8 ?_
   refine wpAnyH_ready (rs := [1, 6]) (by kernel_rfl) (by simp) ?_
   refine (AllReadyH.cons rfl (fun K hK => ?_) (AllReadyH.cons rfl (fun K hK => ?_) AllReadyH.nil))
   ·
    obtain ⟨tb, htb⟩ : ∃ q, z0.heap.size = q := ⟨_, rfl⟩
    obtain ⟨z1, hze⟩ : ∃ q, q = z0.alloc strs4 := ⟨_, rfl⟩
    have HIz1 : Hid (OInv w z1 B g a len cap (.slice va k vc) k l) := by rw [hze]; exact HIz0.out.alloc strs4
    obtain ⟨it, hit, hcz1⟩ : ∃ it : ByteArray, it.size ≤ 8 ∧ z1.cell? ⟨tb, j, none⟩ = some (.string it) := by rw [hze, ← htb]; exact strs4_at (heap_alloc_new z0 strs4) hlt
    have hbtz1 : tb < z1.heap.size := by rw [hze, ← htb]; show _ < (z0.heap.push _).size; simp
    have hgt : g < tb := by rw [← htb]; exact HIz0.out.rd.lt
    have hzl : z0.alloc (.cells #[.string ⟨#[101, 103, 103]⟩, .string ⟨#[109, 105, 108, 107]⟩, .string ⟨#[111, 97, 116]⟩, .string ⟨#[116, 101, 97]⟩] 9) = z1 := hze.symm
    clear hze
    go_simp
    refine hK.out _ _ trivial (fun hHeldB => ?_)
    clear hK K hHeldB
    (try simp only [Act.put, u1, u2, u3])
    (try rw [hzl])
    (try rw [htb])
    clear hzl htb HIz0
    refine tj 3 ?_
    refine wpAnyH_ready (rs := [4, 6]) (by kernel_rfl) (by simp) ?_
    refine (AllReadyH.cons rfl (fun K hK => ?_) (AllReadyH.cons rfl (fun K hK => ?_) AllReadyH.nil))
    ·
     go_simp
     refine hK.out _ _ trivial (fun hHeldB => ?_)
     clear hK K hHeldB
     (try simp only [Act.put, u1, u2, u3])
     refine wpAnyH_ready (rs := [6]) (by kernel_rfl) (by simp) ?_
     refine (AllReadyH.cons rfl (fun K hK => ?_) AllReadyH.nil)
     go_simp
     go_at_call 39
     refine (belowI _ B g a len cap HIz1.out.rd 4 (by omega) (by omega)).mono ?_
     rintro e z2 ⟨v1, hv1, rfl, hg, hr⟩
     have HIz2 := Lib.hid (HIz1.out.step hg hr)
     have hv1n : v1 < 4 := hv1
     clear hg hr hv1 HIz1
     refine hK.out _ _ trivial (fun hHeldC => ?_)
     clear hK K hHeldC
     (try simp only [Act.put, u1, u2, u3])
     refine tj 7 ?_
     refine wpAnyH_ready (rs := [9]) (by kernel_rfl) (by simp) ?_
     refine (AllReadyH.cons rfl (fun K hK => ?_) AllReadyH.nil)
     go_simp
     go_at_call 39
     refine (belowI _ B g a len cap HIz2.out.rd 2 (by omega) (by omega)).mono ?_
     rintro e z3 ⟨v2, hv2, rfl, hg, hr⟩
     have HIz3 := Lib.hid (HIz2.out.step hg hr)
     have hv2n : v2 < 2 := hv2
     clear hg hr hv2 HIz2
     refine hK.out _ _ trivial (fun hHeldC => ?_)
     clear hK K hHeldC
     (try simp only [Act.put, u1, u2, u3])
     refine tj 10 ?_
     refine tj 11 ?_
     obtain ⟨ua, uc, zz, hrun, hI9⟩ := HIz3.out.push it (IntKind.i64.wrap (1 + (v1 : Int))) (IntKind.i64.wrap (1 + (v2 : Int))) hit (by omega)
     have HI9 := Lib.hid hI9
     clear hI9
     refine rk 12 rfl (fun K hK => ?_)
     go_simp
     refine hK.out _ _ trivial (fun hHeldB => ?_)
     clear hK K hHeldB
     (try simp only [Act.put, u1, u2, u3])
     refine rk 13 rfl (fun K hK => ?_)
     rw [if_pos (by rfl)]
     refine opwpO _ _ _ rfl _ _ rfl rfl hrun ?_
     refine hK.out _ _ trivial (fun hHeldA => ?_)
     clear hK K hHeldA
     (try simp only [Act.put, u1, u2, u3])
     refine tj 14 ?_
     refine wpAnyH_done (by kernel_rfl) ?_ _
     refine hKR _ _ ?_
     go_wp2
     go_roundw
     case rel => exact ⟨k + 1, j + 1, uc, ua, _, by omega, by omega, rfl, by go_num, HI9⟩
     case measure => simp [intOf]; omega
    ·
     go_simp
     go_at_call 39
     refine (belowI _ B g a len cap HIz1.out.rd 4 (by omega) (by omega)).mono ?_
     rintro e z4 ⟨v1, hv1, rfl, hg, hr⟩
     have HIz4 := Lib.hid (HIz1.out.step hg hr)
     have hv1n : v1 < 4 := hv1
     have hcz4 : z4.cell? ⟨tb, j, none⟩ = some (.string it) := (World.cell?_of_block (a := ⟨tb, j, none⟩) (hg.block tb hbtz1 (by intro e; injection e with e; omega))).trans hcz1
     have hbtz4 : tb < z4.heap.size := Nat.lt_of_lt_of_le hbtz1 hg.size
     clear hcz1 hbtz1
     clear hg hr hv1 HIz1
     refine hK.out _ _ trivial (fun hHeldC => ?_)
     clear hK K hHeldC
     (try simp only [Act.put, u1, u2, u3])
     refine tj 7 ?_
     refine wpAnyH_ready (rs := [4, 9]) (by kernel_rfl) (by simp) ?_
     refine (AllReadyH.cons rfl (fun K hK => ?_) (AllReadyH.cons rfl (fun K hK => ?_) AllReadyH.nil))
     ·
      go_simp
      refine hK.out _ _ trivial (fun hHeldB => ?_)
      clear hK K hHeldB
      (try simp only [Act.put, u1, u2, u3])
      refine wpAnyH_ready (rs := [9]) (by kernel_rfl) (by simp) ?_
      refine (AllReadyH.cons rfl (fun K hK => ?_) AllReadyH.nil)
      go_simp
      go_at_call 39
      refine (belowI _ B g a len cap HIz4.out.rd 2 (by omega) (by omega)).mono ?_
      rintro e z5 ⟨v2, hv2, rfl, hg, hr⟩
      have HIz5 := Lib.hid (HIz4.out.step hg hr)
      have hv2n : v2 < 2 := hv2
      clear hg hr hv2 HIz4
      refine hK.out _ _ trivial (fun hHeldC => ?_)
      clear hK K hHeldC
      (try simp only [Act.put, u1, u2, u3])
      refine tj 10 ?_
      refine tj 11 ?_
      obtain ⟨ua, uc, zz, hrun, hI9⟩ := HIz5.out.push it (IntKind.i64.wrap (1 + (v1 : Int))) (IntKind.i64.wrap (1 + (v2 : Int))) hit (by omega)
      have HI9 := Lib.hid hI9
      clear hI9
      refine rk 12 rfl (fun K hK => ?_)
      go_simp
      refine hK.out _ _ trivial (fun hHeldB => ?_)
      clear hK K hHeldB
      (try simp only [Act.put, u1, u2, u3])
      refine rk 13 rfl (fun K hK => ?_)
      rw [if_pos (by rfl)]
      refine opwpO _ _ _ rfl _ _ rfl rfl hrun ?_
      refine hK.out _ _ trivial (fun hHeldA => ?_)
      clear hK K hHeldA
      (try simp only [Act.put, u1, u2, u3])
      refine tj 14 ?_
      refine wpAnyH_done (by kernel_rfl) ?_ _
      refine hKR _ _ ?_
      go_wp2
      go_roundw
      case rel => exact ⟨k + 1, j + 1, uc, ua, _, by omega, by omega, rfl, by go_num, HI9⟩
      case measure => simp [intOf]; omega
     ·
      go_simp
      go_at_call 39
      refine (belowI _ B g a len cap HIz4.out.rd 2 (by omega) (by omega)).mono ?_
      rintro e z6 ⟨v2, hv2, rfl, hg, hr⟩
      have HIz6 := Lib.hid (HIz4.out.step hg hr)
      have hv2n : v2 < 2 := hv2
      have hcz6 : z6.cell? ⟨tb, j, none⟩ = some (.string it) := (World.cell?_of_block (a := ⟨tb, j, none⟩) (hg.block tb hbtz4 (by intro e; injection e with e; omega))).trans hcz4
      have hbtz6 : tb < z6.heap.size := Nat.lt_of_lt_of_le hbtz4 hg.size
      clear hcz4 hbtz4
      clear hg hr hv2 HIz4
      refine hK.out _ _ trivial (fun hHeldC => ?_)
      clear hK K hHeldC
      (try simp only [Act.put, u1, u2, u3])
      refine tj 10 ?_
      refine wpAnyH_ready (rs := [4]) (by kernel_rfl) (by simp) ?_
      refine (AllReadyH.cons rfl (fun K hK => ?_) AllReadyH.nil)
      go_simp
      refine hK.out _ _ trivial (fun hHeldB => ?_)
      clear hK K hHeldB
      (try simp only [Act.put, u1, u2, u3])
      refine tj 11 ?_
      obtain ⟨ua, uc, zz, hrun, hI9⟩ := HIz6.out.push it (IntKind.i64.wrap (1 + (v1 : Int))) (IntKind.i64.wrap (1 + (v2 : Int))) hit (by omega)
      have HI9 := Lib.hid hI9
      clear hI9
      refine rk 12 rfl (fun K hK => ?_)
      go_simp
      refine hK.out _ _ trivial (fun hHeldB => ?_)
      clear hK K hHeldB
      (try simp only [Act.put, u1, u2, u3])
      refine rk 13 rfl (fun K hK => ?_)
      rw [if_pos (by rfl)]
      refine opwpO _ _ _ rfl _ _ rfl rfl hrun ?_
      refine hK.out _ _ trivial (fun hHeldA => ?_)
      clear hK K hHeldA
      (try simp only [Act.put, u1, u2, u3])
      refine tj 14 ?_
      refine wpAnyH_done (by kernel_rfl) ?_ _
      refine hKR _ _ ?_
      go_wp2
      go_roundw
      case rel => exact ⟨k + 1, j + 1, uc, ua, _, by omega, by omega, rfl, by go_num, HI9⟩
      case measure => simp [intOf]; omega
   ·
    go_simp
    go_at_call 39
    refine (belowI _ B g a len cap HIz0.out.rd 4 (by omega) (by omega)).mono ?_
    rintro e z7 ⟨v1, hv1, rfl, hg, hr⟩
    have HIz7 := Lib.hid (HIz0.out.step hg hr)
    have hv1n : v1 < 4 := hv1
    clear hg hr hv1 HIz0
    refine hK.out _ _ trivial (fun hHeldC => ?_)
    clear hK K hHeldC
    (try simp only [Act.put, u1, u2, u3])
    refine tj 7 ?_
    refine wpAnyH_ready (rs := [1, 9]) (by kernel_rfl) (by simp) ?_
    refine (AllReadyH.cons rfl (fun K hK => ?_) (AllReadyH.cons rfl (fun K hK => ?_) AllReadyH.nil))
    ·
     obtain ⟨tb, htb⟩ : ∃ q, z7.heap.size = q := ⟨_, rfl⟩
     obtain ⟨z8, hze⟩ : ∃ q, q = z7.alloc strs4 := ⟨_, rfl⟩
     have HIz8 : Hid (OInv w z8 B g a len cap (.slice va k vc) k l) := by rw [hze]; exact HIz7.out.alloc strs4
     obtain ⟨it, hit, hcz8⟩ : ∃ it : ByteArray, it.size ≤ 8 ∧ z8.cell? ⟨tb, j, none⟩ = some (.string it) := by rw [hze, ← htb]; exact strs4_at (heap_alloc_new z7 strs4) hlt
     have hbtz8 : tb < z8.heap.size := by rw [hze, ← htb]; show _ < (z7.heap.push _).size; simp
     have hgt : g < tb := by rw [← htb]; exact HIz7.out.rd.lt
     have hzl : z7.alloc (.cells #[.string ⟨#[101, 103, 103]⟩, .string ⟨#[109, 105, 108, 107]⟩, .string ⟨#[111, 97, 116]⟩, .string ⟨#[116, 101, 97]⟩] 9) = z8 := hze.symm
     clear hze
     go_simp
     refine hK.out _ _ trivial (fun hHeldB => ?_)
     clear hK K hHeldB
     (try simp only [Act.put, u1, u2, u3])
     (try rw [hzl])
     (try rw [htb])
     clear hzl htb HIz7
     refine tj 3 ?_
     refine wpAnyH_ready (rs := [4, 9]) (by kernel_rfl) (by simp) ?_
     refine (AllReadyH.cons rfl (fun K hK => ?_) (AllReadyH.cons rfl (fun K hK => ?_) AllReadyH.nil))
     ·
      go_simp
      refine hK.out _ _ trivial (fun hHeldB => ?_)
      clear hK K hHeldB
      (try simp only [Act.put, u1, u2, u3])
      refine wpAnyH_ready (rs := [9]) (by kernel_rfl) (by simp) ?_
      refine (AllReadyH.cons rfl (fun K hK => ?_) AllReadyH.nil)
      go_simp
      go_at_call 39
      refine (belowI _ B g a len cap HIz8.out.rd 2 (by omega) (by omega)).mono ?_
      rintro e z9 ⟨v2, hv2, rfl, hg, hr⟩
      have HIz9 := Lib.hid (HIz8.out.step hg hr)
      have hv2n : v2 < 2 := hv2
      clear hg hr hv2 HIz8
      refine hK.out _ _ trivial (fun hHeldC => ?_)
      clear hK K hHeldC
      (try simp only [Act.put, u1, u2, u3])
      refine tj 10 ?_
      refine tj 11 ?_
      obtain ⟨ua, uc, zz, hrun, hI9⟩ := HIz9.out.push it (IntKind.i64.wrap (1 + (v1 : Int))) (IntKind.i64.wrap (1 + (v2 : Int))) hit (by omega)
      have HI9 := Lib.hid hI9
      clear hI9
      refine rk 12 rfl (fun K hK => ?_)
      go_simp
      refine hK.out _ _ trivial (fun hHeldB => ?_)
      clear hK K hHeldB
      (try simp only [Act.put, u1, u2, u3])
      refine rk 13 rfl (fun K hK => ?_)
      rw [if_pos (by rfl)]
      refine opwpO _ _ _ rfl _ _ rfl rfl hrun ?_
      refine hK.out _ _ trivial (fun hHeldA => ?_)
      clear hK K hHeldA
      (try simp only [Act.put, u1, u2, u3])
      refine tj 14 ?_
      refine wpAnyH_done (by kernel_rfl) ?_ _
      refine hKR _ _ ?_
      go_wp2
      go_roundw
      case rel => exact ⟨k + 1, j + 1, uc, ua, _, by omega, by omega, rfl, by go_num, HI9⟩
      case measure => simp [intOf]; omega
     ·
      go_simp
      go_at_call 39
      refine (belowI _ B g a len cap HIz8.out.rd 2 (by omega) (by omega)).mono ?_
      rintro e z10 ⟨v2, hv2, rfl, hg, hr⟩
      have HIz10 := Lib.hid (HIz8.out.step hg hr)
      have hv2n : v2 < 2 := hv2
      have hcz10 : z10.cell? ⟨tb, j, none⟩ = some (.string it) := (World.cell?_of_block (a := ⟨tb, j, none⟩) (hg.block tb hbtz8 (by intro e; injection e with e; omega))).trans hcz8
      have hbtz10 : tb < z10.heap.size := Nat.lt_of_lt_of_le hbtz8 hg.size
      clear hcz8 hbtz8
      clear hg hr hv2 HIz8
      refine hK.out _ _ trivial (fun hHeldC => ?_)
      clear hK K hHeldC
      (try simp only [Act.put, u1, u2, u3])
      refine tj 10 ?_
      refine wpAnyH_ready (rs := [4]) (by kernel_rfl) (by simp) ?_
      refine (AllReadyH.cons rfl (fun K hK => ?_) AllReadyH.nil)
      go_simp
      refine hK.out _ _ trivial (fun hHeldB => ?_)
      clear hK K hHeldB
      (try simp only [Act.put, u1, u2, u3])
      refine tj 11 ?_
      obtain ⟨ua, uc, zz, hrun, hI9⟩ := HIz10.out.push it (IntKind.i64.wrap (1 + (v1 : Int))) (IntKind.i64.wrap (1 + (v2 : Int))) hit (by omega)
      have HI9 := Lib.hid hI9
      clear hI9
      refine rk 12 rfl (fun K hK => ?_)
      go_simp
      refine hK.out _ _ trivial (fun hHeldB => ?_)
      clear hK K hHeldB
      (try simp only [Act.put, u1, u2, u3])
      refine rk 13 rfl (fun K hK => ?_)
      rw [if_pos (by rfl)]
      refine opwpO _ _ _ rfl _ _ rfl rfl hrun ?_
      refine hK.out _ _ trivial (fun hHeldA => ?_)
      clear hK K hHeldA
      (try simp only [Act.put, u1, u2, u3])
      refine tj 14 ?_
      refine wpAnyH_done (by kernel_rfl) ?_ _
      refine hKR _ _ ?_
      go_wp2
      go_roundw
      case rel => exact ⟨k + 1, j + 1, uc, ua, _, by omega, by omega, rfl, by go_num, HI9⟩
      case measure => simp [intOf]; omega
    ·
     go_simp
     go_at_call 39
     refine (belowI _ B g a len cap HIz7.out.rd 2 (by omega) (by omega)).mono ?_
     rintro e z11 ⟨v2, hv2, rfl, hg, hr⟩
     have HIz11 := Lib.hid (HIz7.out.step hg hr)
     have hv2n : v2 < 2 := hv2
     clear hg hr hv2 HIz7
     refine hK.out _ _ trivial (fun hHeldC => ?_)
     clear hK K hHeldC
     (try simp only [Act.put, u1, u2, u3])
     refine tj 10 ?_
     refine wpAnyH_ready (rs := [1]) (by kernel_rfl) (by simp) ?_
     refine (AllReadyH.cons rfl (fun K hK => ?_) AllReadyH.nil)
     obtain ⟨tb, htb⟩ : ∃ q, z11.heap.size = q := ⟨_, rfl⟩
     obtain ⟨z12, hze⟩ : ∃ q, q = z11.alloc strs4 := ⟨_, rfl⟩
     have HIz12 : Hid (OInv w z12 B g a len cap (.slice va k vc) k l) := by rw [hze]; exact HIz11.out.alloc strs4
     obtain ⟨it, hit, hcz12⟩ : ∃ it : ByteArray, it.size ≤ 8 ∧ z12.cell? ⟨tb, j, none⟩ = some (.string it) := by rw [hze, ← htb]; exact strs4_at (heap_alloc_new z11 strs4) hlt
     have hbtz12 : tb < z12.heap.size := by rw [hze, ← htb]; show _ < (z11.heap.push _).size; simp
     have hgt : g < tb := by rw [← htb]; exact HIz11.out.rd.lt
     have hzl : z11.alloc (.cells #[.string ⟨#[101, 103, 103]⟩, .string ⟨#[109, 105, 108, 107]⟩, .string ⟨#[111, 97, 116]⟩, .string ⟨#[116, 101, 97]⟩] 9) = z12 := hze.symm
     clear hze
     go_simp
     refine hK.out _ _ trivial (fun hHeldB => ?_)
     clear hK K hHeldB
     (try simp only [Act.put, u1, u2, u3])
     (try rw [hzl])
     (try rw [htb])
     clear hzl htb HIz11
     refine tj 3 ?_
     refine wpAnyH_ready (rs := [4]) (by kernel_rfl) (by simp) ?_
     refine (AllReadyH.cons rfl (fun K hK => ?_) AllReadyH.nil)
     go_simp
     refine hK.out _ _ trivial (fun hHeldB => ?_)
     clear hK K hHeldB
     (try simp only [Act.put, u1, u2, u3])
     refine tj 11 ?_
     obtain ⟨ua, uc, zz, hrun, hI9⟩ := HIz12.out.push it (IntKind.i64.wrap (1 + (v1 : Int))) (IntKind.i64.wrap (1 + (v2 : Int))) hit (by omega)
     have HI9 := Lib.hid hI9
     clear hI9
     refine rk 12 rfl (fun K hK => ?_)
     go_simp
     refine hK.out _ _ trivial (fun hHeldB => ?_)
     clear hK K hHeldB
     (try simp only [Act.put, u1, u2, u3])
     refine rk 13 rfl (fun K hK => ?_)
     rw [if_pos (by rfl)]
     refine opwpO _ _ _ rfl _ _ rfl rfl hrun ?_
     refine hK.out _ _ trivial (fun hHeldA => ?_)
     clear hK K hHeldA
     (try simp only [Act.put, u1, u2, u3])
     refine tj 14 ?_
     refine wpAnyH_done (by kernel_rfl) ?_ _
     refine hKR _ _ ?_
     go_wp2
     go_roundw
     case rel => exact ⟨k + 1, j + 1, uc, ua, _, by omega, by omega, rfl, by go_num, HI9⟩
     case measure => simp [intOf]; omega
  ·obtain rfl : j = 4 := by omega
   go_wp2_with fail
   refine (once wr B g a len cap HI.out.rd 20 (by omega) (by omega)).mono ?_
   rintro e w1 ⟨o1, rfl, hg1, hr1⟩
   have HI1 := Lib.hid (HI.out.step hg1 hr1)
   clear hg1 hr1 HI
   rcases o1 with _ | _
   ·go_wp2
    go_ret
    exact ⟨va, k, vc, l, hkj, rfl, HI1.out⟩
   by_cases h0 : k = 0
   ·subst h0
    go_wp2
    go_ret
    exact ⟨va, 0, vc, l, hkj, rfl, HI1.out⟩
   have hk0 : ((k : Int) > 0) := by omega
   obtain ⟨q, hq⟩ : ∃ q, va = some ⟨q, 0, none⟩ := by
    obtain ⟨va', vc', e, hf⟩ := HI1.out.form
    injection e with e1 e2 e3
    subst e1
    exact hf (by omega)
   subst hq
   go_wp2_with fail
   refine (off99 w1 B g a len cap HI1.out.rd).mono ?_
   rintro e w2 ⟨X, rfl, hg2, hr2⟩
   have hI2 := HI1.out.step hg2 hr2
   obtain ⟨x, l', rfl⟩ : ∃ x l', l = x :: l' := by
    cases l with
    | nil => have := hI2.num; simp at this; omega
    | cons x l' => exact ⟨x, l', rfl⟩
   obtain ⟨k', rfl⟩ : ∃ k', k = k' + 1 := ⟨k - 1, by omega⟩
   obtain ⟨hI3, ⟨v, c0⟩, f0⟩ := hI2.store X
   have HI3 := Lib.hid hI3
   have hk1 : (0 : Int) < ((k' + 1 : Nat) : Int) := by omega
   clear hg2 hr2 hI2 hI3 h0 hk0 HI1
   go_wp2
   go_ret
   exact ⟨some ⟨q, 0, none⟩, k' + 1, vc, _, hkj, rfl, HI3.out⟩
set_option linter.unusedVariables false
set_option linter.unusedSimpArgs false

theorem offMio (w : World) (B g : Nat) (a : Option Addr) (len cap : Nat) (h : Rd w B g a len cap) :
  Calls Tryz.prog 40 #[.pointer (some ⟨g, 0, none⟩), .int .i64 1, .int .i64 1000000] w (YieldsInt .i64 w B g a len cap) := rdOff w B g a len cap h 1 1000000 (by omega) (by omega) (by omega)
/-- What the reader's prices leave. -/
def YieldsPrices (w : World) (B g : Nat) (a : Option Addr) (len cap : Nat) (e : Ending) (w' : World) : Prop :=
 ∃ (q off n : Nat) (l : List PrV), n ≤ 4 ∧ 3 ≤ n ∧ e = .returned (.slice (some ⟨q, off, none⟩) n n) ∧ w.heap.size ≤ q ∧ q < w'.heap.size ∧ Prs w' w'.heap.size (some ⟨q, off, none⟩) n l ∧ (∀ i, i < n → (l.getD i PrV.zero).item.size ≤ 8) ∧ w.grownBy w' (some g) ∧ Rd w' B g a len cap
theorem Prs.kept_at {w w' : World} {B B' q off n : Nat} {l : List PrV} (h : Prs w B (some ⟨q, off, none⟩) n l) (hk : w'.heap[q]? = w.heap[q]?) (hB : 0 < n → q < B') : Prs w' B' (some ⟨q, off, none⟩) n l :=
 ⟨h.1, fun i hi => by
  obtain ⟨b, o, e, hb, ho⟩ := h.2 i hi
  injection e with e
  injection e with e1 e2 _
  subst e1 e2
  exact ⟨_, _, rfl, hB (by omega), ho.kept hk⟩⟩
def fourPr (X Y Z : Int) : List PrV := [⟨⟨#[101, 103, 103]⟩, X⟩, ⟨⟨#[109, 105, 108, 107]⟩, Y⟩, ⟨⟨#[111, 97, 116]⟩, 250⟩, ⟨⟨#[116, 101, 97]⟩, Z⟩]
theorem four_row {w : World} {q : Nat} {X Y Z : Int} {B : Nat} (h : w.heap[q]? = some (.cells #[.string ⟨#[101, 103, 103]⟩, .int .i64 X, .string ⟨#[109, 105, 108, 107]⟩, .int .i64 Y, .string ⟨#[111, 97, 116]⟩, .int .i64 250, .string ⟨#[116, 101, 97]⟩, .int .i64 Z] 63 (0, 0))) (hB : q < B) : Prs w B (some ⟨q, 0, none⟩) 4 (fourPr X Y Z) := by
 refine ⟨rfl, fun i hi => ⟨q, 0, rfl, hB, ?_⟩⟩
 have e := fun j => cell_of_row w q j _ _ _ h
 match i, hi with
 | 0, _ => exact ⟨e 0, e 1⟩
 | 1, _ => exact ⟨e 2, e 3⟩
 | 2, _ => exact ⟨e 4, e 5⟩
 | 3, _ => exact ⟨e 6, e 7⟩
theorem four_rest {w : World} {q : Nat} {X Y Z : Int} {B : Nat} (h : w.heap[q]? = some (.cells #[.string ⟨#[101, 103, 103]⟩, .int .i64 X, .string ⟨#[109, 105, 108, 107]⟩, .int .i64 Y, .string ⟨#[111, 97, 116]⟩, .int .i64 250, .string ⟨#[116, 101, 97]⟩, .int .i64 Z] 63 (0, 0))) (hB : q < B) : Prs w B (some ⟨q, 2, none⟩) 3 ((fourPr X Y Z).drop 1) := by
 refine ⟨rfl, fun i hi => ⟨q, 2, rfl, hB, ?_⟩⟩
 have e := fun j => cell_of_row w q j _ _ _ h
 match i, hi with
 | 0, _ => exact ⟨e 2, e 3⟩
 | 1, _ => exact ⟨e 4, e 5⟩
 | 2, _ => exact ⟨e 6, e 7⟩
theorem four_items (X Y Z : Int) : ∀ i, i < 4 → ((fourPr X Y Z).getD i PrV.zero).item.size ≤ 8 := fun i hi => by
 match i, hi with
 | 0, _ => exact (by decide : (3 : Nat) ≤ 8)
 | 1, _ => exact (by decide : (4 : Nat) ≤ 8)
 | 2, _ => exact (by decide : (3 : Nat) ≤ 8)
 | 3, _ => exact (by decide : (3 : Nat) ≤ 8)
theorem rest_items (X Y Z : Int) : ∀ i, i < 3 → (((fourPr X Y Z).drop 1).getD i PrV.zero).item.size ≤ 8 := fun i hi => by
 match i, hi with
 | 0, _ => exact (by decide : (4 : Nat) ≤ 8)
 | 1, _ => exact (by decide : (3 : Nat) ≤ 8)
 | 2, _ => exact (by decide : (3 : Nat) ≤ 8)
set_option maxHeartbeats 20000000 in
theorem prices (w : World) (B g : Nat) (a : Option Addr) (len cap : Nat) (h : Rd w B g a len cap) :
  Calls Tryz.prog 19 #[.pointer (some ⟨g, 0, none⟩)] w (YieldsPrices w B g a len cap) := by
 have HR := Lib.hid h
 clear h
 go_enter Tryz.func19, Tryz.ntmps19
 go_wp2_with fail
 refine (belowI w B g a len cap HR.out 20 (by omega) (by omega)).mono ?_
 rintro e w1 ⟨v1, h1, rfl, hg1, hr1⟩
 have HG1 := Lib.hid hg1
 have HR1 := Lib.hid hr1
 clear hg1 hr1
 go_wp2_with fail
 refine (belowI w1 B g a len cap HR1.out 999 (by omega) (by omega)).mono ?_
 rintro e w2 ⟨v2, h2, rfl, hg2, hr2⟩
 have HG2 := Lib.hid (HG1.out.trans hg2)
 have HR2 := Lib.hid hr2
 clear hg2 hr2 HG1 HR1
 go_wp2_with fail
 have hgq := HR2.out.lt
 have HQ3 : Hid ((w2.alloc (.cells #[.string ⟨#[101, 103, 103]⟩, .int .i64 30, .string ⟨#[109, 105, 108, 107]⟩, .int .i64 (90 + (v1 : Int)), .string ⟨#[111, 97, 116]⟩, .int .i64 250, .string ⟨#[116, 101, 97]⟩, .int .i64 (1 + (v2 : Int))] 63)).heap[w2.heap.size]? = some (.cells #[.string ⟨#[101, 103, 103]⟩, .int .i64 30, .string ⟨#[109, 105, 108, 107]⟩, .int .i64 (90 + (v1 : Int)), .string ⟨#[111, 97, 116]⟩, .int .i64 250, .string ⟨#[116, 101, 97]⟩, .int .i64 (1 + (v2 : Int))] 63 (0, 0))) := heap_alloc_new w2 _
 have HG3 : Hid (w.grownBy (w2.alloc (.cells #[.string ⟨#[101, 103, 103]⟩, .int .i64 30, .string ⟨#[109, 105, 108, 107]⟩, .int .i64 (90 + (v1 : Int)), .string ⟨#[111, 97, 116]⟩, .int .i64 250, .string ⟨#[116, 101, 97]⟩, .int .i64 (1 + (v2 : Int))] 63)) (some g)) := HG2.out.trans (World.grownBy_alloc w2 _ (some g))
 have HR3 : Hid (Rd (w2.alloc (.cells #[.string ⟨#[101, 103, 103]⟩, .int .i64 30, .string ⟨#[109, 105, 108, 107]⟩, .int .i64 (90 + (v1 : Int)), .string ⟨#[111, 97, 116]⟩, .int .i64 250, .string ⟨#[116, 101, 97]⟩, .int .i64 (1 + (v2 : Int))] 63)) B g a len cap) := HR2.out.grown (World.grownBy_alloc w2 _ none) (fun k hk => by cases hk)
 have hwq : w.heap.size ≤ w2.heap.size := HG2.out.size
 clear HG2 HR2
 generalize w2.alloc (.cells #[.string ⟨#[101, 103, 103]⟩, .int .i64 30, .string ⟨#[109, 105, 108, 107]⟩, .int .i64 (90 + (v1 : Int)), .string ⟨#[111, 97, 116]⟩, .int .i64 250, .string ⟨#[116, 101, 97]⟩, .int .i64 (1 + (v2 : Int))] 63) = w3 at HQ3 HG3 HR3 ⊢
 generalize w2.heap.size = q at hgq hwq HQ3 ⊢
 generalize (90 + (v1 : Int)) = Y at HQ3 ⊢
 generalize (1 + (v2 : Int)) = Z at HQ3 ⊢
 refine (once w3 B g a len cap HR3.out 8 (by omega) (by omega)).mono ?_
 rintro e w4 ⟨o1, rfl, hg4, hr4⟩
 have HQ4 := Lib.hid ((hg4.block q (Array.getElem?_eq_some_iff.1 HQ3.out).1 (fun e => by injection e with e; omega)).trans HQ3.out)
 have HG4 := Lib.hid (HG3.out.trans hg4)
 have HR4 := Lib.hid hr4
 clear hg4 hr4 HQ3 HG3 HR3
 cases o1
 rotate_left
 ·have HB := Lib.hid (Array.getElem?_eq_some_iff.1 HQ4.out).1
  go_wp2
  go_ret
  exact ⟨q, 2, 3, (fourPr 30 Y Z).drop 1, by omega, by omega, rfl, hwq, HB.out, four_rest HQ4.out HB.out, rest_items _ _ _, HG4.out, HR4.out⟩
 go_wp2_with fail
 refine (once w4 B g a len cap HR4.out 20 (by omega) (by omega)).mono ?_
 rintro e w5 ⟨o2, rfl, hg5, hr5⟩
 have HQ5 := Lib.hid ((hg5.block q (Array.getElem?_eq_some_iff.1 HQ4.out).1 (fun e => by injection e with e; omega)).trans HQ4.out)
 have HG5 := Lib.hid (HG4.out.trans hg5)
 have HR5 := Lib.hid hr5
 clear hg5 hr5 HQ4 HG4 HR4
 cases o2
 ·go_wp2
  go_ret
  exact ⟨q, 0, 4, fourPr 30 Y Z, by omega, by omega, rfl, hwq, (Array.getElem?_eq_some_iff.1 HQ5.out).1, four_row HQ5.out (Array.getElem?_eq_some_iff.1 HQ5.out).1, four_items _ _ _, HG5.out, HR5.out⟩
 go_wp2_with fail
 refine (offMio w5 B g a len cap HR5.out).mono ?_
 rintro e w6 ⟨X, rfl, hg6, hr6⟩
 have HQ6 := Lib.hid ((hg6.block q (Array.getElem?_eq_some_iff.1 HQ5.out).1 (fun e => by injection e with e; omega)).trans HQ5.out)
 have HG6 := Lib.hid (HG5.out.trans hg6)
 have HR6 := Lib.hid hr6
 clear hg6 hr6 HQ5 HG5 HR5
 have c1 : w6.cell? ⟨q, 1, none⟩ = some (.int .i64 30) := (cell_of_row _ _ 1 _ _ _ HQ6.out).trans rfl
 have f1 : w6.frozen? ⟨q, 1, none⟩ = false := frozen_of_row _ _ _ _ _ HQ6.out
 have HQ7 : Hid ((w6.setCell ⟨q, 1, none⟩ (.int .i64 X)).heap[q]? = some (.cells #[.string ⟨#[101, 103, 103]⟩, .int .i64 X, .string ⟨#[109, 105, 108, 107]⟩, .int .i64 Y, .string ⟨#[111, 97, 116]⟩, .int .i64 250, .string ⟨#[116, 101, 97]⟩, .int .i64 Z] 63 (0, 0))) := heap_setCell_same _ _ 1 _ _ (.int .i64 X) HQ6.out
 have hgs : w6.grownBy (w6.setCell ⟨q, 1, none⟩ (.int .i64 X)) (some q) := ⟨rfl, rfl, rfl, by simp [World.setCell], fun j _ hne => heap_setCell_other _ _ _ _ (fun e => hne (by rw [e]))⟩
 have hB := HR6.out.own
 have HG7 : Hid (w.grownBy (w6.setCell ⟨q, 1, none⟩ (.int .i64 X)) (some g)) := grownBy_own HG6.out hgs (fun k hk => by cases hk; exact hwq)
 have HR7 : Hid (Rd (w6.setCell ⟨q, 1, none⟩ (.int .i64 X)) B g a len cap) := HR6.out.grown hgs (fun k hk => by cases hk; omega)
 clear hgs
 go_wp2
 change bodyPost _ _ _ _ _ (w6.setCell ⟨q, 1, none⟩ (.int .i64 X))
 generalize w6.setCell ⟨q, 1, none⟩ (.int .i64 X) = w7 at HQ7 HG7 HR7 ⊢
 go_ret
 exact ⟨q, 0, 4, fourPr X Y Z, by omega, by omega, rfl, hwq, (Array.getElem?_eq_some_iff.1 HQ7.out).1, four_row HQ7.out (Array.getElem?_eq_some_iff.1 HQ7.out).1, four_items _ _ _, HG7.out, HR7.out⟩
end Go.Proofs.YtgagchlcafdiaaaGreat
