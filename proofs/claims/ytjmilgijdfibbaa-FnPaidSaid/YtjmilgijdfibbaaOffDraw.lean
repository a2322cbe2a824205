/- Offers that are drawn: the walks of the reader's near, off and offers, and of spec.DrawPaid. -/
import Derived.Test.YtjmilgijdfibbaaVecDrawW
import Derived.Test.YtjmilgijdfibbaaRowOf
import Derived.Laws.AppendOwn
import Derived.Laws.OwnMore
import Derived.Deep.Cut
namespace Go.Proofs.Ytjmilgijdfibbaa
open Go.RowKit
set_option linter.unusedVariables false
set_option linter.unusedSimpArgs false

set_option maxRecDepth 100000 in
theorem near99 (w : World) (B g : Nat) (a : Option Addr) (len cap : Nat) (h : Rd w B g a len cap) :
    Calls Try.prog 111 #[.pointer (some ⟨g, 0, none⟩), .int .i64 1, .int .i64 99] w (YieldsInt .i64 w B g a len cap) := by
  go_enter Try.func111, Try.ntmps111
  go_wp2_with fail
  refine (belowI w B g a len cap h 8 (by omega) (by omega)).mono ?_
  rintro e w1 ⟨v, hv, rfl, hg1, hr1⟩
  have hv8 : v < 8 := hv
  clear hv h
  by_cases h0 : v = 0
  · subst h0
    go_wp2
    go_ret
    exact ⟨1, rfl, hg1, hr1⟩
  · have n0 : ((v : Int) == 0) = false := by simp; omega
    by_cases h1 : v = 1
    · subst h1
      go_wp2
      go_ret
      exact ⟨99, rfl, hg1, hr1⟩
    · have n1 : ((v : Int) == 1) = false := by simp; omega
      go_wp2_with fail
      refine (word w1 B g a len cap hr1).mono ?_
      rintro e w2 ⟨x, rfl, hg2, hr2⟩
      go_wp2
      go_ret
      exact ⟨_, rfl, hg1.trans hg2, hr2⟩

def offCells99 : Obj := .cells #[.int .i64 0, .int .i64 100, .int .i64 (-9223372036854775808), .int .i64 9223372036854775807] 2
theorem offCells99_at {w : World} {b i : Nat} (h : w.heap[b]? = some offCells99) (hi : i < 4) : ∃ t : Int, w.cell? ⟨b, i, none⟩ = some (.int .i64 t) := by
  have e := cell_of_row w b i _ _ _ h
  match i, hi with
  | 0, _ => exact ⟨_, e⟩
  | 1, _ => exact ⟨_, e⟩
  | 2, _ => exact ⟨_, e⟩
  | 3, _ => exact ⟨_, e⟩

set_option maxRecDepth 100000 in
theorem off99 (w : World) (B g : Nat) (a : Option Addr) (len cap : Nat) (h : Rd w B g a len cap) :
    Calls Try.prog 76 #[.pointer (some ⟨g, 0, none⟩), .int .i64 1, .int .i64 99] w (YieldsInt .i64 w B g a len cap) := by
  go_enter Try.func76, Try.ntmps76
  go_wp2_with fail
  refine (once w B g a len cap h 24 (by omega) (by omega)).mono ?_
  rintro e w1 ⟨v, rfl, hg1, hr1⟩
  clear h
  cases v
  · go_wp2_with fail
    refine (near99 w1 B g a len cap hr1).mono ?_
    rintro e w2 ⟨x, rfl, hg2, hr2⟩
    go_wp2
    go_ret
    exact ⟨x, rfl, hg1.trans hg2, hr2⟩
  · have hr1' := Lib.hid (hr1.grown (World.grownBy_alloc w1 offCells99 none) (fun k hk => by cases hk))
    have hg1' := Lib.hid (hg1.trans (World.grownBy_alloc w1 offCells99 (some g)))
    have hgw : g < w1.heap.size := hr1.lt
    have hT : (w1.alloc offCells99).heap[w1.heap.size]? = some offCells99 := heap_alloc_new _ _
    clear hr1 hg1
    go_wp2_with fail
    refine (belowI _ B g a len cap hr1'.out 4 (by omega) (by omega)).mono ?_
    rintro e w2 ⟨i, hi, rfl, hg2, hr2⟩
    have hi4 : i < 4 := hi
    have hi5 : (i : Int) < 4 := by omega
    have hT2 : w2.heap[w1.heap.size]? = some offCells99 := (hg2.block _ (by simp) (by simp; omega)).trans hT
    obtain ⟨t, hct⟩ := offCells99_at hT2 hi4
    have HG := Lib.hid hg2
    have HR := Lib.hid hr2
    clear hT hT2 hg2 hr2 hi
    go_wp2
    go_ret
    exact ⟨t, rfl, hg1'.out.trans HG.out, HR.out⟩


set_option maxRecDepth 100000 in
theorem near999 (w : World) (B g : Nat) (a : Option Addr) (len cap : Nat) (h : Rd w B g a len cap) :
    Calls Try.prog 111 #[.pointer (some ⟨g, 0, none⟩), .int .i64 0, .int .i64 999] w (YieldsInt .i64 w B g a len cap) := by
  go_enter Try.func111, Try.ntmps111
  go_wp2_with fail
  refine (belowI w B g a len cap h 8 (by omega) (by omega)).mono ?_
  rintro e w1 ⟨v, hv, rfl, hg1, hr1⟩
  have hv8 : v < 8 := hv
  clear hv h
  by_cases h0 : v = 0
  · subst h0
    go_wp2
    go_ret
    exact ⟨0, rfl, hg1, hr1⟩
  · have n0 : ((v : Int) == 0) = false := by simp; omega
    by_cases h1 : v = 1
    · subst h1
      go_wp2
      go_ret
      exact ⟨999, rfl, hg1, hr1⟩
    · have n1 : ((v : Int) == 1) = false := by simp; omega
      go_wp2_with fail
      refine (word w1 B g a len cap hr1).mono ?_
      rintro e w2 ⟨x, rfl, hg2, hr2⟩
      go_wp2
      go_ret
      exact ⟨_, rfl, hg1.trans hg2, hr2⟩

def offCells999 : Obj := .cells #[.int .i64 (-1), .int .i64 1000, .int .i64 (-9223372036854775808), .int .i64 9223372036854775807] 2
theorem offCells999_at {w : World} {b i : Nat} (h : w.heap[b]? = some offCells999) (hi : i < 4) : ∃ t : Int, w.cell? ⟨b, i, none⟩ = some (.int .i64 t) := by
  have e := cell_of_row w b i _ _ _ h
  match i, hi with
  | 0, _ => exact ⟨_, e⟩
  | 1, _ => exact ⟨_, e⟩
  | 2, _ => exact ⟨_, e⟩
  | 3, _ => exact ⟨_, e⟩

set_option maxRecDepth 100000 in
theorem off999 (w : World) (B g : Nat) (a : Option Addr) (len cap : Nat) (h : Rd w B g a len cap) :
    Calls Try.prog 76 #[.pointer (some ⟨g, 0, none⟩), .int .i64 0, .int .i64 999] w (YieldsInt .i64 w B g a len cap) := by
  go_enter Try.func76, Try.ntmps76
  go_wp2_with fail
  refine (once w B g a len cap h 24 (by omega) (by omega)).mono ?_
  rintro e w1 ⟨v, rfl, hg1, hr1⟩
  clear h
  cases v
  · go_wp2_with fail
    refine (near999 w1 B g a len cap hr1).mono ?_
    rintro e w2 ⟨x, rfl, hg2, hr2⟩
    go_wp2
    go_ret
    exact ⟨x, rfl, hg1.trans hg2, hr2⟩
  · have hr1' := Lib.hid (hr1.grown (World.grownBy_alloc w1 offCells999 none) (fun k hk => by cases hk))
    have hg1' := Lib.hid (hg1.trans (World.grownBy_alloc w1 offCells999 (some g)))
    have hgw : g < w1.heap.size := hr1.lt
    have hT : (w1.alloc offCells999).heap[w1.heap.size]? = some offCells999 := heap_alloc_new _ _
    clear hr1 hg1
    go_wp2_with fail
    refine (belowI _ B g a len cap hr1'.out 4 (by omega) (by omega)).mono ?_
    rintro e w2 ⟨i, hi, rfl, hg2, hr2⟩
    have hi4 : i < 4 := hi
    have hi5 : (i : Int) < 4 := by omega
    have hT2 : w2.heap[w1.heap.size]? = some offCells999 := (hg2.block _ (by simp) (by simp; omega)).trans hT
    obtain ⟨t, hct⟩ := offCells999_at hT2 hi4
    have HG := Lib.hid hg2
    have HR := Lib.hid hr2
    clear hT hT2 hg2 hr2 hi
    go_wp2
    go_ret
    exact ⟨t, rfl, hg1'.out.trans HG.out, HR.out⟩


def ofCells : List OfV → List Value
  | [] => []
  | x :: l => [.string x.item, .int .i64 x.buy, .int .i64 x.free] ++ ofCells l
theorem ofCells_snoc (x : OfV) : ∀ l, ofCells (l ++ [x]) = ofCells l ++ [.string x.item, .int .i64 x.buy, .int .i64 x.free]
  | [] => rfl
  | y :: l => by show [Value.string y.item, .int .i64 y.buy, .int .i64 y.free] ++ ofCells (l ++ [x]) = ([Value.string y.item, .int .i64 y.buy, .int .i64 y.free] ++ ofCells l) ++ _; rw [ofCells_snoc x l, List.append_assoc]
theorem ofCells_at : ∀ (l : List OfV) (i : Nat), i < l.length → (ofCells l)[i * 3]? = some (.string (l.getD i OfV.zero).item) ∧ (ofCells l)[i * 3 + 1]? = some (.int .i64 (l.getD i OfV.zero).buy) ∧ (ofCells l)[i * 3 + 2]? = some (.int .i64 (l.getD i OfV.zero).free)
  | x :: l, 0, _ => ⟨rfl, rfl, rfl⟩
  | x :: l, i + 1, h => by
    have := ofCells_at l i (by simpa using h)
    have e : (i + 1) * 3 = i * 3 + 3 := by omega
    rw [e]
    exact this
theorem Try.infoOffer : (Try.prog.info? 26).map (fun i => (i.zero, i.size, i.bytes)) = some (some (.agg #[.string ⟨#[]⟩, .int .i64 0, .int .i64 0]), 3, 32) := by kernel_rfl
/-- A loop of the reader that gathers offers: k of them are there. -/
structure OInv (w wr : World) (B g : Nat) (a : Option Addr) (len cap : Nat) (v : Value) (k : Nat) (l : List OfV) : Prop where
  own : wr.ownsRow w.heap.size 26 3 v k (ofCells l)
  num : l.length = k
  grown : w.grownBy wr (some g)
  rd : Rd wr B g a len cap
  glt : g < w.heap.size
  items : ∀ i, i < k → (l.getD i OfV.zero).item.size ≤ 8
theorem OInv.step {w wr w1 : World} {B g : Nat} {a : Option Addr} {len cap : Nat} {v : Value} {k : Nat} {l : List OfV} (h : OInv w wr B g a len cap v k l) (hg : wr.grownBy w1 (some g)) (hr : Rd w1 B g a len cap) : OInv w w1 B g a len cap v k l :=
  ⟨h.own.kept hg (by
    rcases hv : v.ownBlock with _ | q
    · exact .inl rfl
    · exact .inr (fun e => by have := (h.own.lt q hv).1; have := h.glt; have : q = g := by simpa using e
                              omega)), h.num, h.grown.trans hg, hr, h.glt, h.items⟩
theorem OInv.alloc {w wr : World} {B g : Nat} {a : Option Addr} {len cap : Nat} {v : Value} {k : Nat} {l : List OfV} (h : OInv w wr B g a len cap v k l) (ob : Obj) : OInv w (wr.alloc ob) B g a len cap v k l :=
  ⟨h.own.alloc ob, h.num, h.grown.trans (World.grownBy_alloc wr ob (some g)), h.rd.grown (World.grownBy_alloc wr ob none) (fun k hk => by cases hk), h.glt, h.items⟩
theorem OInv.drew {w wr : World} {B g : Nat} {a : Option Addr} {len cap : Nat} {v : Value} {k : Nat} {l : List OfV} (h : OInv w wr B g a len cap v k l) : OInv w wr.drew B g a len cap v k l :=
  h.step ⟨rfl, rfl, rfl, Nat.le_refl _, fun _ _ _ => rfl⟩ (h.rd.kept fun _ _ => rfl)
theorem OInv.push {w z : World} {B g : Nat} {a : Option Addr} {len cap : Nat} {v : Value} {k : Nat} {l : List OfV} (h : OInv w z B g a len cap v k l) (it : ByteArray) (X Y : Int) (hit : it.size ≤ 8) (hk : k ≤ 100) :
    ∃ va vc z3, (Builtin.append_ #[39, 39] 39 #[v, .slice (some ⟨z.heap.size, 0, none⟩) 1 1]).run Try.prog (z.alloc (.cells #[.string it, .int .i64 X, .int .i64 Y] 26)) = .ok (.slice va (k + 1) vc) z3 ∧ OInv w z3 B g a len cap (.slice va (k + 1) vc) (k + 1) (l ++ [⟨it, X, Y⟩]) := by
  obtain ⟨i0, hi, hz0, hz1, hz2⟩ := info_parts Try.infoOffer
  have h2 := h.alloc (.cells #[.string it, .int .i64 X, .int .i64 Y] 26)
  have hsz := h.grown.size
  obtain ⟨v', z3, hrun, hown, hgr, _⟩ := run_append_own (P := Try.prog) (z.alloc (.cells #[.string it, .int .i64 X, .int .i64 Y] 26)) w.heap.size 39 39 26 i0 (.agg #[.string ⟨#[]⟩, .int .i64 0, .int .i64 0]) 3 32 Try.underlying39 hi hz0 hz1 hz2 rfl (by decide) v k (ofCells l) h2.own ⟨z.heap.size, 0, none⟩ 1 1 [.string it, .int .i64 X, .int .i64 Y] rfl
    (by
      have hn := heap_alloc_new z (.cells #[.string it, .int .i64 X, .int .i64 Y] 26)
      intro j u hj
      match j, hj with
      | 0, hj => simp at hj; subst hj; exact (cell_of_row _ _ _ _ _ _ hn).trans rfl
      | 1, hj => simp at hj; subst hj; simp only [Addr.add]; exact (cell_of_row _ _ _ _ _ _ hn).trans rfl
      | 2, hj => simp at hj; subst hj; simp only [Addr.add]; exact (cell_of_row _ _ _ _ _ _ hn).trans rfl)
    (by intro u hu; simp at hu; rcases hu with rfl | rfl | rfl <;> rfl) (by unfold maxLen; omega) (by omega) (by show _ ≤ (z.heap.push _).size; simp; omega)
  obtain ⟨va, vc, rfl⟩ : ∃ va vc, v' = .slice va (k + 1) vc := by
    rcases hown.2 with ⟨_, e2⟩ | ⟨_, c2, _, e2, _⟩
    · omega
    · exact ⟨_, c2, e2⟩
  have hrl : ∀ q, v.ownBlock = some q → w.heap.size ≤ q := fun q hq => (h2.own.lt q hq).1
  have hgl := h.glt
  have hB := h.rd.own
  refine ⟨va, vc, z3, hrun, by rw [ofCells_snoc]; exact hown, by rw [List.length_append, h.num]; rfl, grownBy_own h2.grown hgr hrl, h2.rd.grown hgr (fun q hq => by have := hrl q hq; omega), h.glt, fun i hi' => ?_⟩
  rcases Nat.lt_or_ge i k with q | q
  · rw [List.getD_eq_getElem?_getD, List.getElem?_append_left (by rw [h.num]; exact q), ← List.getD_eq_getElem?_getD]
    exact h.items i q
  · obtain rfl : i = k := by omega
    rw [List.getD_eq_getElem?_getD, List.getElem?_append_right (by rw [h.num]; exact Nat.le_refl _), h.num]
    simpa using hit
theorem OInv.form {w wr : World} {B g : Nat} {a : Option Addr} {len cap : Nat} {v : Value} {k : Nat} {l : List OfV} (h : OInv w wr B g a len cap v k l) : ∃ va vc, v = .slice va k vc ∧ (0 < k → ∃ q, va = some ⟨q, 0, none⟩) := by
  rcases h.own.2 with ⟨e, e2⟩ | ⟨q, c, _, e, _⟩
  · subst e2; exact ⟨none, 0, e, fun h => absurd h (by omega)⟩
  · exact ⟨_, c, e, fun _ => ⟨q, rfl⟩⟩
theorem opwpO {P : Program} {o : Oper} {a : Act} {w : World} {K : Act → World → Prop} {Q : Exit → Act → World → Prop} (x y : Operand) (ts : Array TypeId) (hop : o.op = Op.call { callee := Callee.builtin Builtin.append, args := #[x, y], argTypes := ts }) (v1 v2 : Value) {v' : Value} {w' : World} (h1 : a.eval x = v1) (h2 : a.eval y = v2)
    (hrun : (Builtin.append_ ts o.type #[v1, v2]).run P w = .ok v' w') (hK : K (a.put o.dst v') w') : Oper.wp P o a w K Q := by
  unfold Oper.wp
  simp [execOp, hop, resolve, invoke, builtin, h1, h2, hrun, Result.andThen]
  exact hK
theorem OInv.store {w z : World} {B g q c k : Nat} {a : Option Addr} {len cap : Nat} {x : OfV} {l : List OfV} (h : OInv w z B g a len cap (.slice (some ⟨q, 0, none⟩) (k + 1) c) (k + 1) (x :: l)) (X : Int) :
    OInv w (z.setCell ⟨q, 1, none⟩ (.int .i64 X)) B g a len cap (.slice (some ⟨q, 0, none⟩) (k + 1) c) (k + 1) (⟨x.item, X, x.free⟩ :: l) ∧ (∃ v, z.cell? ⟨q, 1, none⟩ = some v) ∧ z.frozen? ⟨q, 1, none⟩ = false := by
  obtain ⟨h1, h2⟩ := h.own.stored 1 (.int .i64 X)
  have hq : w.heap.size ≤ q := (h.own.lt q rfl).1
  have hgl := h.glt
  have hB := h.rd.own
  refine ⟨⟨h1, by have := h.num; simpa using this, grownBy_own h.grown h2 (fun k hk => by cases hk; exact hq), h.rd.grown h2 (fun k hk => by cases hk; omega), h.glt, fun i hi => ?_⟩, ⟨_, (h.own.cellAt 1 (by omega)).trans rfl⟩, h.own.frozenAt 1⟩
  match i with
  | 0 => exact h.items 0 (by omega)
  | i + 1 => exact h.items (i + 1) hi
def strs4 : Obj := .cells #[.string ⟨#[101, 103, 103]⟩, .string ⟨#[109, 105, 108, 107]⟩, .string ⟨#[111, 97, 116]⟩, .string ⟨#[116, 101, 97]⟩] 9
theorem strs4_at {w : World} {b i : Nat} (h : w.heap[b]? = some strs4) (hi : i < 4) : ∃ t : ByteArray, t.size ≤ 8 ∧ w.cell? ⟨b, i, none⟩ = some (.string t) := by
  have e := cell_of_row w b i _ _ _ h
  match i, hi with
  | 0, _ => exact ⟨_, by decide, e⟩
  | 1, _ => exact ⟨_, by decide, e⟩
  | 2, _ => exact ⟨_, by decide, e⟩
  | 3, _ => exact ⟨_, by decide, e⟩
/-- What the reader's offers leave. -/
def YieldsOffers (w : World) (B g : Nat) (a : Option Addr) (len cap : Nat) (e : Ending) (w' : World) : Prop :=
  ∃ (va : Option Addr) (k vc : Nat) (l : List OfV), k ≤ 4 ∧ e = .returned (.slice va k vc) ∧ OInv w w' B g a len cap (.slice va k vc) k l
set_option maxRecDepth 100000 in
set_option maxHeartbeats 4000000 in
theorem offers (w : World) (B g : Nat) (a : Option Addr) (len cap : Nat) (h : Rd w B g a len cap) :
    Calls Try.prog 74 #[.pointer (some ⟨g, 0, none⟩)] w (YieldsOffers w B g a len cap) := by
  have hI0 : OInv w (w.alloc (.cells #[] 26)) B g a len cap (.slice (some ⟨w.heap.size, 0, none⟩) 0 0) 0 [] :=
    ⟨World.ownsRow_made (e := 26) (size := 3) w #[] 0 (Nat.le_refl w.heap.size) (by unfold maxLen; omega) rfl, rfl, World.grownBy_alloc w _ (some g), h.grown (World.grownBy_alloc w _ none) (fun k hk => by cases hk), h.lt, fun i hi => absurd hi (by omega)⟩
  have HI0 := Lib.hid hI0
  clear hI0 h
  go_enter Try.func74, Try.ntmps74
  go_wp2
  go_loopw [3, 4] (fun v i wr => ∃ (k j vc : Nat) (va : Option Addr) (l : List OfV), j ≤ 4 ∧ k ≤ j ∧ v = .slice va k vc ∧ i = .int .i64 (j : Int) ∧ Hid (OInv w wr B g a len cap (.slice va k vc) k l)) (fun _ i _ => 4 - (intOf i).toNat)
  case atStart => exact ⟨0, 0, 0, some ⟨w.heap.size, 0, none⟩, [], by omega, by omega, rfl, rfl, HI0.out⟩
  case round =>
    obtain ⟨k, j, vc, va, l, hj, hkj, rfl, rfl, HI⟩ := hrel
    by_cases hlt : j < 4
    · have hji : (j : Int) < 4 := by omega
      have hj0 : (0 : Int) ≤ (j : Int) := by omega
      go_wp2_with fail
      refine (once wr B g a len cap HI.out.rd 2 (by omega) (by omega)).mono ?_
      rintro e w1 ⟨o1, rfl, hg1, hr1⟩
      have HI1 := Lib.hid (HI.out.step hg1 hr1)
      clear hg1 hr1 HI
      rcases o1 with _ | _
      · go_wp2
        go_roundw
        case rel => exact ⟨k, j + 1, vc, va, l, by omega, by omega, rfl, by go_num, HI1⟩
        case measure => simp [intOf]; omega
      go_upto_region 6 with fail
      rename_i KR hKR
      obtain ⟨z0, hz0e⟩ : ∃ z0, w1.drew = z0 := ⟨_, rfl⟩
      have HIz0 : Hid (OInv w z0 B g a len cap (.slice va k vc) k l) := by rw [← hz0e]; exact HI1.out.drew
      clear HI1
      refine wp_region_held_drew (S := fun w' => True) (by kernel_rfl) trivial (fun hHeld => ?_)
      rw [hz0e]
      clear hHeld hz0e
      have hT : True := trivial
      refine wpAnyH_take (i := 0) (oi := { dst := some 12, op := Op.move (Operand.tmp 3), type := 39, pos := "l12_prices.go:99", after := #[], guard := none }) (v := ?_) rfl (by kernel_rfl) (by kernel_rfl) (by kernel_rfl) (fun _ _ _ h => h) (Or.inl ⟨by rfl, ?_⟩) (by assumption) ?_
      rotate_left
      · intro w hSw
        (try dsimp only at hSw)
        first | (go_simp; done) | (go_simp; with_reducible rfl)
      (try simp only [Act.put, List.setIfInBounds_toArray, List.set_cons_zero, List.set_cons_succ])
      refine wpAnyH_take (i := 2) (oi := { dst := some 14, op := Op.move (Operand.tmp 4), type := 3, pos := "l12_prices.go:99", after := #[], guard := none }) (v := ?_) rfl (by kernel_rfl) (by kernel_rfl) (by kernel_rfl) (fun _ _ _ h => h) (Or.inl ⟨by rfl, ?_⟩) (by assumption) ?_
      rotate_left
      · intro w hSw
        (try dsimp only at hSw)
        first | (go_simp; done) | (go_simp; with_reducible rfl)
      (try simp only [Act.put, List.setIfInBounds_toArray, List.set_cons_zero, List.set_cons_succ])
      refine wpAnyH_take (i := 5) (oi := { dst := some 17, op := Op.move (Operand.tmp 0), type := 95, pos := "l12_prices.go:99", after := #[], guard := none }) (v := ?_) rfl (by kernel_rfl) (by kernel_rfl) (by kernel_rfl) (fun _ _ _ h => h) (Or.inl ⟨by rfl, ?_⟩) (by assumption) ?_
      rotate_left
      · intro w hSw
        (try dsimp only at hSw)
        first | (go_simp; done) | (go_simp; with_reducible rfl)
      (try simp only [Act.put, List.setIfInBounds_toArray, List.set_cons_zero, List.set_cons_succ])
      refine wpAnyH_take (i := 8) (oi := { dst := some 20, op := Op.move (Operand.tmp 0), type := 95, pos := "l12_prices.go:99", after := #[], guard := none }) (v := ?_) rfl (by kernel_rfl) (by kernel_rfl) (by kernel_rfl) (fun _ _ _ h => h) (Or.inl ⟨by rfl, ?_⟩) (by assumption) ?_
      rotate_left
      · intro w hSw
        (try dsimp only at hSw)
        first | (go_simp; done) | (go_simp; with_reducible rfl)
      (try simp only [Act.put, List.setIfInBounds_toArray, List.set_cons_zero, List.set_cons_succ])
      refine wpAnyH_ready (rs := [1, 6]) (by kernel_rfl) (by simp) ?_
      refine (AllReadyH.cons (o := { dst := some 13, op := Op.buildSlice 132 4 #[(0, Operand.const (Value.string { data := #[101, 103, 103] })), (1, Operand.const (Value.string { data := #[109, 105, 108, 107] })), (2, Operand.const (Value.string { data := #[111, 97, 116] })), (3, Operand.const (Value.string { data := #[116, 101, 97] }))], type := 132, pos := "l12_prices.go:99", after := #[], guard := none }) rfl (fun K hK => ?_) (AllReadyH.cons (o := { dst := some 18, op := Op.call { callee := Callee.value (Operand.func 77), args := #[Operand.tmp 17, Operand.const (Value.int IntKind.i64 4)], argTypes := #[95, 3] }, type := 3, pos := "l12_prices.go:99", after := #[{ on := 5, ground := Ground.data }], guard := none }) rfl (fun K hK => ?_) AllReadyH.nil))
      ·
        obtain ⟨tb, htb⟩ : ∃ q, z0.heap.size = q := ⟨_, rfl⟩
        obtain ⟨z1, hze⟩ : ∃ q, q = z0.alloc strs4 := ⟨_, rfl⟩
        have HIz1 : Hid (OInv w z1 B g a len cap (.slice va k vc) k l) := by rw [hze]; exact HIz0.out.alloc strs4
        obtain ⟨it, hit, hcz1⟩ : ∃ it : ByteArray, it.size ≤ 8 ∧ z1.cell? ⟨tb, j, none⟩ = some (.string it) := by rw [hze, ← htb]; exact strs4_at (heap_alloc_new z0 strs4) hlt
        have hbtz1 : tb < z1.heap.size := by rw [hze, ← htb]; show _ < (z0.heap.push _).size; simp
        have hgt : g < tb := by rw [← htb]; exact HIz0.out.rd.lt
        have hzl : z0.alloc (.cells #[.string ⟨#[101, 103, 103]⟩, .string ⟨#[109, 105, 108, 107]⟩, .string ⟨#[111, 97, 116]⟩, .string ⟨#[116, 101, 97]⟩] 9) = z1 := hze.symm
        clear hze
        go_simp
        refine hK.out _ _ trivial (fun hHeldB => ?_)
        clear hK K hHeldB
        (try simp only [Act.put, List.setIfInBounds_toArray, List.set_cons_zero, List.set_cons_succ])
        (try rw [hzl])
        (try rw [htb])
        clear hzl htb HIz0
        refine wpAnyH_take (i := 3) (oi := { dst := some 15, op := Op.indexAddr 132 (Operand.tmp 13) (Operand.tmp 14), type := 0, pos := "l12_prices.go:99", after := #[{ on := 1, ground := Ground.data }, { on := 2, ground := Ground.data }], guard := none }) (v := ?_) rfl (by kernel_rfl) (by kernel_rfl) (by kernel_rfl) (fun _ _ _ h => h) (Or.inl ⟨by rfl, ?_⟩) (by assumption) ?_
        rotate_left
        · intro w hSw
          (try dsimp only at hSw)
          first | (go_simp; done) | (go_simp; with_reducible rfl)
        (try simp only [Act.put, List.setIfInBounds_toArray, List.set_cons_zero, List.set_cons_succ])
        refine wpAnyH_ready (rs := [4, 6]) (by kernel_rfl) (by simp) ?_
        refine (AllReadyH.cons (o := { dst := some 16, op := Op.load 9 (Operand.tmp 15), type := 9, pos := "l12_prices.go:99", after := #[{ on := 3, ground := Ground.data }], guard := none }) rfl (fun K hK => ?_) (AllReadyH.cons (o := { dst := some 18, op := Op.call { callee := Callee.value (Operand.func 77), args := #[Operand.tmp 17, Operand.const (Value.int IntKind.i64 4)], argTypes := #[95, 3] }, type := 3, pos := "l12_prices.go:99", after := #[{ on := 5, ground := Ground.data }], guard := none }) rfl (fun K hK => ?_) AllReadyH.nil))
        ·
          go_simp
          refine hK.out _ _ trivial (fun hHeldB => ?_)
          clear hK K hHeldB
          (try simp only [Act.put, List.setIfInBounds_toArray, List.set_cons_zero, List.set_cons_succ])
          refine wpAnyH_ready (rs := [6]) (by kernel_rfl) (by simp) ?_
          refine (AllReadyH.cons (o := { dst := some 18, op := Op.call { callee := Callee.value (Operand.func 77), args := #[Operand.tmp 17, Operand.const (Value.int IntKind.i64 4)], argTypes := #[95, 3] }, type := 3, pos := "l12_prices.go:99", after := #[{ on := 5, ground := Ground.data }], guard := none }) rfl (fun K hK => ?_) AllReadyH.nil)
          go_simp
          go_at_call 77
          refine (belowI _ B g a len cap HIz1.out.rd 4 (by omega) (by omega)).mono ?_
          rintro e z2 ⟨v1, hv1, rfl, hg, hr⟩
          have HIz2 := Lib.hid (HIz1.out.step hg hr)
          have hv1n : v1 < 4 := hv1
          clear hg hr hv1 HIz1
          refine hK.out _ _ trivial (fun hHeldC => ?_)
          clear hK K hHeldC
          (try simp only [Act.put, List.setIfInBounds_toArray, List.set_cons_zero, List.set_cons_succ])
          refine wpAnyH_take (i := 7) (oi := { dst := some 19, op := Op.binOp BinOp.add 3 (Operand.const (Value.int IntKind.i64 1)) (Operand.tmp 18) 3, type := 3, pos := "l12_prices.go:99", after := #[{ on := 6, ground := Ground.data }], guard := none }) (v := ?_) rfl (by kernel_rfl) (by kernel_rfl) (by kernel_rfl) (fun _ _ _ h => h) (Or.inl ⟨by rfl, ?_⟩) (by assumption) ?_
          rotate_left
          · intro w hSw
            (try dsimp only at hSw)
            first | (go_simp; done) | (go_simp; with_reducible rfl)
          (try simp only [Act.put, List.setIfInBounds_toArray, List.set_cons_zero, List.set_cons_succ])
          refine wpAnyH_ready (rs := [9]) (by kernel_rfl) (by simp) ?_
          refine (AllReadyH.cons (o := { dst := some 21, op := Op.call { callee := Callee.value (Operand.func 77), args := #[Operand.tmp 20, Operand.const (Value.int IntKind.i64 2)], argTypes := #[95, 3] }, type := 3, pos := "l12_prices.go:99", after := #[{ on := 8, ground := Ground.data }, { on := 6, ground := Ground.chain }], guard := none }) rfl (fun K hK => ?_) AllReadyH.nil)
          go_simp
          go_at_call 77
          refine (belowI _ B g a len cap HIz2.out.rd 2 (by omega) (by omega)).mono ?_
          rintro e z3 ⟨v2, hv2, rfl, hg, hr⟩
          have HIz3 := Lib.hid (HIz2.out.step hg hr)
          have hv2n : v2 < 2 := hv2
          clear hg hr hv2 HIz2
          refine hK.out _ _ trivial (fun hHeldC => ?_)
          clear hK K hHeldC
          (try simp only [Act.put, List.setIfInBounds_toArray, List.set_cons_zero, List.set_cons_succ])
          refine wpAnyH_take (i := 10) (oi := { dst := some 22, op := Op.binOp BinOp.add 3 (Operand.const (Value.int IntKind.i64 1)) (Operand.tmp 21) 3, type := 3, pos := "l12_prices.go:99", after := #[{ on := 9, ground := Ground.data }], guard := none }) (v := ?_) rfl (by kernel_rfl) (by kernel_rfl) (by kernel_rfl) (fun _ _ _ h => h) (Or.inl ⟨by rfl, ?_⟩) (by assumption) ?_
          rotate_left
          · intro w hSw
            (try dsimp only at hSw)
            first | (go_simp; done) | (go_simp; with_reducible rfl)
          (try simp only [Act.put, List.setIfInBounds_toArray, List.set_cons_zero, List.set_cons_succ])
          refine wpAnyH_take (i := 11) (oi := { dst := some 23, op := Op.build 26 #[(0, Operand.tmp 16), (1, Operand.tmp 19), (2, Operand.tmp 22)], type := 26, pos := "l12_prices.go:99", after := #[{ on := 4, ground := Ground.data }, { on := 7, ground := Ground.data }, { on := 10, ground := Ground.data }], guard := none }) (v := ?_) rfl (by kernel_rfl) (by kernel_rfl) (by kernel_rfl) (fun _ _ _ h => h) (Or.inl ⟨by rfl, ?_⟩) (by assumption) ?_
          rotate_left
          · intro w hSw
            (try dsimp only at hSw)
            first | (go_simp; done) | (go_simp; with_reducible rfl)
          (try simp only [Act.put, List.setIfInBounds_toArray, List.set_cons_zero, List.set_cons_succ])
          obtain ⟨ua, uc, zz, hrun, hI9⟩ := HIz3.out.push it (IntKind.i64.wrap (1 + (v1 : Int))) (IntKind.i64.wrap (1 + (v2 : Int))) hit (by omega)
          have HI9 := Lib.hid hI9
          clear hI9
          refine wpAnyH_ready (rs := [12]) (by kernel_rfl) (by simp) ?_
          refine AllReadyH.cons (o := { dst := some 24, op := Op.buildSlice 39 1 #[(0, Operand.tmp 23)], type := 39, pos := "l12_prices.go:99", after := #[{ on := 11, ground := Ground.data }], guard := none }) rfl (fun K hK => ?_) AllReadyH.nil
          go_simp
          refine hK.out _ _ trivial (fun hHeldB => ?_)
          clear hK K hHeldB
          (try simp only [Act.put, List.setIfInBounds_toArray, List.set_cons_zero, List.set_cons_succ])
          refine wpAnyH_ready (rs := [13]) (by kernel_rfl) (by simp) ?_
          refine AllReadyH.cons (o := { dst := some 25, op := Op.call { callee := Callee.builtin Builtin.append, args := #[Operand.tmp 12, Operand.tmp 24], argTypes := #[39, 39] }, type := 39, pos := "l12_prices.go:99", after := #[{ on := 0, ground := Ground.data }, { on := 12, ground := Ground.data }, { on := 9, ground := Ground.chain }], guard := none }) rfl (fun K hK => ?_) AllReadyH.nil
          rw [if_pos (by rfl)]
          refine opwpO _ _ _ rfl _ _ rfl rfl hrun ?_
          refine hK.out _ _ trivial (fun hHeldA => ?_)
          clear hK K hHeldA
          (try simp only [Act.put, List.setIfInBounds_toArray, List.set_cons_zero, List.set_cons_succ])
          refine wpAnyH_take (i := 14) (oi := { dst := some 3, op := Op.assign (Operand.tmp 25), type := 39, pos := "l12_prices.go:99", after := #[{ on := 13, ground := Ground.data }, { on := 13, ground := Ground.chain }, { on := 0, ground := Ground.phase }, { on := 1, ground := Ground.phase }, { on := 2, ground := Ground.phase }, { on := 3, ground := Ground.phase }, { on := 4, ground := Ground.phase }, { on := 5, ground := Ground.phase }, { on := 6, ground := Ground.phase }, { on := 7, ground := Ground.phase }, { on := 8, ground := Ground.phase }, { on := 9, ground := Ground.phase }, { on := 10, ground := Ground.phase }, { on := 11, ground := Ground.phase }, { on := 12, ground := Ground.phase }, { on := 13, ground := Ground.phase }], guard := none }) (v := ?_) rfl (by kernel_rfl) (by kernel_rfl) (by kernel_rfl) (fun _ _ _ h => h) (Or.inl ⟨by rfl, ?_⟩) (by assumption) ?_
          rotate_left
          · intro w hSw
            (try dsimp only at hSw)
            first | (go_simp; done) | (go_simp; with_reducible rfl)
          (try simp only [Act.put, List.setIfInBounds_toArray, List.set_cons_zero, List.set_cons_succ])
          refine wpAnyH_done (by kernel_rfl) ?_ _
          refine hKR _ _ ?_
          go_wp2
          go_roundw
          case rel => exact ⟨k + 1, j + 1, uc, ua, _, by omega, by omega, rfl, by go_num, HI9⟩
          case measure => simp [intOf]; omega
        ·
          go_simp
          go_at_call 77
          refine (belowI _ B g a len cap HIz1.out.rd 4 (by omega) (by omega)).mono ?_
          rintro e z4 ⟨v1, hv1, rfl, hg, hr⟩
          have HIz4 := Lib.hid (HIz1.out.step hg hr)
          have hv1n : v1 < 4 := hv1
          have hcz4 : z4.cell? ⟨tb, j, none⟩ = some (.string it) := (World.cell?_of_block (a := ⟨tb, j, none⟩) (hg.block tb hbtz1 (by intro e; injection e with e; omega))).trans hcz1
          have hbtz4 : tb < z4.heap.size := Nat.lt_of_lt_of_le hbtz1 hg.size
          clear hcz1 hbtz1
          clear hg hr hv1 HIz1
          refine hK.out _ _ trivial (fun hHeldC => ?_)
          clear hK K hHeldC
          (try simp only [Act.put, List.setIfInBounds_toArray, List.set_cons_zero, List.set_cons_succ])
          refine wpAnyH_take (i := 7) (oi := { dst := some 19, op := Op.binOp BinOp.add 3 (Operand.const (Value.int IntKind.i64 1)) (Operand.tmp 18) 3, type := 3, pos := "l12_prices.go:99", after := #[{ on := 6, ground := Ground.data }], guard := none }) (v := ?_) rfl (by kernel_rfl) (by kernel_rfl) (by kernel_rfl) (fun _ _ _ h => h) (Or.inl ⟨by rfl, ?_⟩) (by assumption) ?_
          rotate_left
          · intro w hSw
            (try dsimp only at hSw)
            first | (go_simp; done) | (go_simp; with_reducible rfl)
          (try simp only [Act.put, List.setIfInBounds_toArray, List.set_cons_zero, List.set_cons_succ])
          refine wpAnyH_ready (rs := [4, 9]) (by kernel_rfl) (by simp) ?_
          refine (AllReadyH.cons (o := { dst := some 16, op := Op.load 9 (Operand.tmp 15), type := 9, pos := "l12_prices.go:99", after := #[{ on := 3, ground := Ground.data }], guard := none }) rfl (fun K hK => ?_) (AllReadyH.cons (o := { dst := some 21, op := Op.call { callee := Callee.value (Operand.func 77), args := #[Operand.tmp 20, Operand.const (Value.int IntKind.i64 2)], argTypes := #[95, 3] }, type := 3, pos := "l12_prices.go:99", after := #[{ on := 8, ground := Ground.data }, { on := 6, ground := Ground.chain }], guard := none }) rfl (fun K hK => ?_) AllReadyH.nil))
          ·
            go_simp
            refine hK.out _ _ trivial (fun hHeldB => ?_)
            clear hK K hHeldB
            (try simp only [Act.put, List.setIfInBounds_toArray, List.set_cons_zero, List.set_cons_succ])
            refine wpAnyH_ready (rs := [9]) (by kernel_rfl) (by simp) ?_
            refine (AllReadyH.cons (o := { dst := some 21, op := Op.call { callee := Callee.value (Operand.func 77), args := #[Operand.tmp 20, Operand.const (Value.int IntKind.i64 2)], argTypes := #[95, 3] }, type := 3, pos := "l12_prices.go:99", after := #[{ on := 8, ground := Ground.data }, { on := 6, ground := Ground.chain }], guard := none }) rfl (fun K hK => ?_) AllReadyH.nil)
            go_simp
            go_at_call 77
            refine (belowI _ B g a len cap HIz4.out.rd 2 (by omega) (by omega)).mono ?_
            rintro e z5 ⟨v2, hv2, rfl, hg, hr⟩
            have HIz5 := Lib.hid (HIz4.out.step hg hr)
            have hv2n : v2 < 2 := hv2
            clear hg hr hv2 HIz4
            refine hK.out _ _ trivial (fun hHeldC => ?_)
            clear hK K hHeldC
            (try simp only [Act.put, List.setIfInBounds_toArray, List.set_cons_zero, List.set_cons_succ])
            refine wpAnyH_take (i := 10) (oi := { dst := some 22, op := Op.binOp BinOp.add 3 (Operand.const (Value.int IntKind.i64 1)) (Operand.tmp 21) 3, type := 3, pos := "l12_prices.go:99", after := #[{ on := 9, ground := Ground.data }], guard := none }) (v := ?_) rfl (by kernel_rfl) (by kernel_rfl) (by kernel_rfl) (fun _ _ _ h => h) (Or.inl ⟨by rfl, ?_⟩) (by assumption) ?_
            rotate_left
            · intro w hSw
              (try dsimp only at hSw)
              first | (go_simp; done) | (go_simp; with_reducible rfl)
            (try simp only [Act.put, List.setIfInBounds_toArray, List.set_cons_zero, List.set_cons_succ])
            refine wpAnyH_take (i := 11) (oi := { dst := some 23, op := Op.build 26 #[(0, Operand.tmp 16), (1, Operand.tmp 19), (2, Operand.tmp 22)], type := 26, pos := "l12_prices.go:99", after := #[{ on := 4, ground := Ground.data }, { on := 7, ground := Ground.data }, { on := 10, ground := Ground.data }], guard := none }) (v := ?_) rfl (by kernel_rfl) (by kernel_rfl) (by kernel_rfl) (fun _ _ _ h => h) (Or.inl ⟨by rfl, ?_⟩) (by assumption) ?_
            rotate_left
            · intro w hSw
              (try dsimp only at hSw)
              first | (go_simp; done) | (go_simp; with_reducible rfl)
            (try simp only [Act.put, List.setIfInBounds_toArray, List.set_cons_zero, List.set_cons_succ])
            obtain ⟨ua, uc, zz, hrun, hI9⟩ := HIz5.out.push it (IntKind.i64.wrap (1 + (v1 : Int))) (IntKind.i64.wrap (1 + (v2 : Int))) hit (by omega)
            have HI9 := Lib.hid hI9
            clear hI9
            refine wpAnyH_ready (rs := [12]) (by kernel_rfl) (by simp) ?_
            refine AllReadyH.cons (o := { dst := some 24, op := Op.buildSlice 39 1 #[(0, Operand.tmp 23)], type := 39, pos := "l12_prices.go:99", after := #[{ on := 11, ground := Ground.data }], guard := none }) rfl (fun K hK => ?_) AllReadyH.nil
            go_simp
            refine hK.out _ _ trivial (fun hHeldB => ?_)
            clear hK K hHeldB
            (try simp only [Act.put, List.setIfInBounds_toArray, List.set_cons_zero, List.set_cons_succ])
            refine wpAnyH_ready (rs := [13]) (by kernel_rfl) (by simp) ?_
            refine AllReadyH.cons (o := { dst := some 25, op := Op.call { callee := Callee.builtin Builtin.append, args := #[Operand.tmp 12, Operand.tmp 24], argTypes := #[39, 39] }, type := 39, pos := "l12_prices.go:99", after := #[{ on := 0, ground := Ground.data }, { on := 12, ground := Ground.data }, { on := 9, ground := Ground.chain }], guard := none }) rfl (fun K hK => ?_) AllReadyH.nil
            rw [if_pos (by rfl)]
            refine opwpO _ _ _ rfl _ _ rfl rfl hrun ?_
            refine hK.out _ _ trivial (fun hHeldA => ?_)
            clear hK K hHeldA
            (try simp only [Act.put, List.setIfInBounds_toArray, List.set_cons_zero, List.set_cons_succ])
            refine wpAnyH_take (i := 14) (oi := { dst := some 3, op := Op.assign (Operand.tmp 25), type := 39, pos := "l12_prices.go:99", after := #[{ on := 13, ground := Ground.data }, { on := 13, ground := Ground.chain }, { on := 0, ground := Ground.phase }, { on := 1, ground := Ground.phase }, { on := 2, ground := Ground.phase }, { on := 3, ground := Ground.phase }, { on := 4, ground := Ground.phase }, { on := 5, ground := Ground.phase }, { on := 6, ground := Ground.phase }, { on := 7, ground := Ground.phase }, { on := 8, ground := Ground.phase }, { on := 9, ground := Ground.phase }, { on := 10, ground := Ground.phase }, { on := 11, ground := Ground.phase }, { on := 12, ground := Ground.phase }, { on := 13, ground := Ground.phase }], guard := none }) (v := ?_) rfl (by kernel_rfl) (by kernel_rfl) (by kernel_rfl) (fun _ _ _ h => h) (Or.inl ⟨by rfl, ?_⟩) (by assumption) ?_
            rotate_left
            · intro w hSw
              (try dsimp only at hSw)
              first | (go_simp; done) | (go_simp; with_reducible rfl)
            (try simp only [Act.put, List.setIfInBounds_toArray, List.set_cons_zero, List.set_cons_succ])
            refine wpAnyH_done (by kernel_rfl) ?_ _
            refine hKR _ _ ?_
            go_wp2
            go_roundw
            case rel => exact ⟨k + 1, j + 1, uc, ua, _, by omega, by omega, rfl, by go_num, HI9⟩
            case measure => simp [intOf]; omega
          ·
            go_simp
            go_at_call 77
            refine (belowI _ B g a len cap HIz4.out.rd 2 (by omega) (by omega)).mono ?_
            rintro e z6 ⟨v2, hv2, rfl, hg, hr⟩
            have HIz6 := Lib.hid (HIz4.out.step hg hr)
            have hv2n : v2 < 2 := hv2
            have hcz6 : z6.cell? ⟨tb, j, none⟩ = some (.string it) := (World.cell?_of_block (a := ⟨tb, j, none⟩) (hg.block tb hbtz4 (by intro e; injection e with e; omega))).trans hcz4
            have hbtz6 : tb < z6.heap.size := Nat.lt_of_lt_of_le hbtz4 hg.size
            clear hcz4 hbtz4
            clear hg hr hv2 HIz4
            refine hK.out _ _ trivial (fun hHeldC => ?_)
            clear hK K hHeldC
            (try simp only [Act.put, List.setIfInBounds_toArray, List.set_cons_zero, List.set_cons_succ])
            refine wpAnyH_take (i := 10) (oi := { dst := some 22, op := Op.binOp BinOp.add 3 (Operand.const (Value.int IntKind.i64 1)) (Operand.tmp 21) 3, type := 3, pos := "l12_prices.go:99", after := #[{ on := 9, ground := Ground.data }], guard := none }) (v := ?_) rfl (by kernel_rfl) (by kernel_rfl) (by kernel_rfl) (fun _ _ _ h => h) (Or.inl ⟨by rfl, ?_⟩) (by assumption) ?_
            rotate_left
            · intro w hSw
              (try dsimp only at hSw)
              first | (go_simp; done) | (go_simp; with_reducible rfl)
            (try simp only [Act.put, List.setIfInBounds_toArray, List.set_cons_zero, List.set_cons_succ])
            refine wpAnyH_ready (rs := [4]) (by kernel_rfl) (by simp) ?_
            refine (AllReadyH.cons (o := { dst := some 16, op := Op.load 9 (Operand.tmp 15), type := 9, pos := "l12_prices.go:99", after := #[{ on := 3, ground := Ground.data }], guard := none }) rfl (fun K hK => ?_) AllReadyH.nil)
            go_simp
            refine hK.out _ _ trivial (fun hHeldB => ?_)
            clear hK K hHeldB
            (try simp only [Act.put, List.setIfInBounds_toArray, List.set_cons_zero, List.set_cons_succ])
            refine wpAnyH_take (i := 11) (oi := { dst := some 23, op := Op.build 26 #[(0, Operand.tmp 16), (1, Operand.tmp 19), (2, Operand.tmp 22)], type := 26, pos := "l12_prices.go:99", after := #[{ on := 4, ground := Ground.data }, { on := 7, ground := Ground.data }, { on := 10, ground := Ground.data }], guard := none }) (v := ?_) rfl (by kernel_rfl) (by kernel_rfl) (by kernel_rfl) (fun _ _ _ h => h) (Or.inl ⟨by rfl, ?_⟩) (by assumption) ?_
            rotate_left
            · intro w hSw
              (try dsimp only at hSw)
              first | (go_simp; done) | (go_simp; with_reducible rfl)
            (try simp only [Act.put, List.setIfInBounds_toArray, List.set_cons_zero, List.set_cons_succ])
            obtain ⟨ua, uc, zz, hrun, hI9⟩ := HIz6.out.push it (IntKind.i64.wrap (1 + (v1 : Int))) (IntKind.i64.wrap (1 + (v2 : Int))) hit (by omega)
            have HI9 := Lib.hid hI9
            clear hI9
            refine wpAnyH_ready (rs := [12]) (by kernel_rfl) (by simp) ?_
            refine AllReadyH.cons (o := { dst := some 24, op := Op.buildSlice 39 1 #[(0, Operand.tmp 23)], type := 39, pos := "l12_prices.go:99", after := #[{ on := 11, ground := Ground.data }], guard := none }) rfl (fun K hK => ?_) AllReadyH.nil
            go_simp
            refine hK.out _ _ trivial (fun hHeldB => ?_)
            clear hK K hHeldB
            (try simp only [Act.put, List.setIfInBounds_toArray, List.set_cons_zero, List.set_cons_succ])
            refine wpAnyH_ready (rs := [13]) (by kernel_rfl) (by simp) ?_
            refine AllReadyH.cons (o := { dst := some 25, op := Op.call { callee := Callee.builtin Builtin.append, args := #[Operand.tmp 12, Operand.tmp 24], argTypes := #[39, 39] }, type := 39, pos := "l12_prices.go:99", after := #[{ on := 0, ground := Ground.data }, { on := 12, ground := Ground.data }, { on := 9, ground := Ground.chain }], guard := none }) rfl (fun K hK => ?_) AllReadyH.nil
            rw [if_pos (by rfl)]
            refine opwpO _ _ _ rfl _ _ rfl rfl hrun ?_
            refine hK.out _ _ trivial (fun hHeldA => ?_)
            clear hK K hHeldA
            (try simp only [Act.put, List.setIfInBounds_toArray, List.set_cons_zero, List.set_cons_succ])
            refine wpAnyH_take (i := 14) (oi := { dst := some 3, op := Op.assign (Operand.tmp 25), type := 39, pos := "l12_prices.go:99", after := #[{ on := 13, ground := Ground.data }, { on := 13, ground := Ground.chain }, { on := 0, ground := Ground.phase }, { on := 1, ground := Ground.phase }, { on := 2, ground := Ground.phase }, { on := 3, ground := Ground.phase }, { on := 4, ground := Ground.phase }, { on := 5, ground := Ground.phase }, { on := 6, ground := Ground.phase }, { on := 7, ground := Ground.phase }, { on := 8, ground := Ground.phase }, { on := 9, ground := Ground.phase }, { on := 10, ground := Ground.phase }, { on := 11, ground := Ground.phase }, { on := 12, ground := Ground.phase }, { on := 13, ground := Ground.phase }], guard := none }) (v := ?_) rfl (by kernel_rfl) (by kernel_rfl) (by kernel_rfl) (fun _ _ _ h => h) (Or.inl ⟨by rfl, ?_⟩) (by assumption) ?_
            rotate_left
            · intro w hSw
              (try dsimp only at hSw)
              first | (go_simp; done) | (go_simp; with_reducible rfl)
            (try simp only [Act.put, List.setIfInBounds_toArray, List.set_cons_zero, List.set_cons_succ])
            refine wpAnyH_done (by kernel_rfl) ?_ _
            refine hKR _ _ ?_
            go_wp2
            go_roundw
            case rel => exact ⟨k + 1, j + 1, uc, ua, _, by omega, by omega, rfl, by go_num, HI9⟩
            case measure => simp [intOf]; omega
      ·
        go_simp
        go_at_call 77
        refine (belowI _ B g a len cap HIz0.out.rd 4 (by omega) (by omega)).mono ?_
        rintro e z7 ⟨v1, hv1, rfl, hg, hr⟩
        have HIz7 := Lib.hid (HIz0.out.step hg hr)
        have hv1n : v1 < 4 := hv1
        clear hg hr hv1 HIz0
        refine hK.out _ _ trivial (fun hHeldC => ?_)
        clear hK K hHeldC
        (try simp only [Act.put, List.setIfInBounds_toArray, List.set_cons_zero, List.set_cons_succ])
        refine wpAnyH_take (i := 7) (oi := { dst := some 19, op := Op.binOp BinOp.add 3 (Operand.const (Value.int IntKind.i64 1)) (Operand.tmp 18) 3, type := 3, pos := "l12_prices.go:99", after := #[{ on := 6, ground := Ground.data }], guard := none }) (v := ?_) rfl (by kernel_rfl) (by kernel_rfl) (by kernel_rfl) (fun _ _ _ h => h) (Or.inl ⟨by rfl, ?_⟩) (by assumption) ?_
        rotate_left
        · intro w hSw
          (try dsimp only at hSw)
          first | (go_simp; done) | (go_simp; with_reducible rfl)
        (try simp only [Act.put, List.setIfInBounds_toArray, List.set_cons_zero, List.set_cons_succ])
        refine wpAnyH_ready (rs := [1, 9]) (by kernel_rfl) (by simp) ?_
        refine (AllReadyH.cons (o := { dst := some 13, op := Op.buildSlice 132 4 #[(0, Operand.const (Value.string { data := #[101, 103, 103] })), (1, Operand.const (Value.string { data := #[109, 105, 108, 107] })), (2, Operand.const (Value.string { data := #[111, 97, 116] })), (3, Operand.const (Value.string { data := #[116, 101, 97] }))], type := 132, pos := "l12_prices.go:99", after := #[], guard := none }) rfl (fun K hK => ?_) (AllReadyH.cons (o := { dst := some 21, op := Op.call { callee := Callee.value (Operand.func 77), args := #[Operand.tmp 20, Operand.const (Value.int IntKind.i64 2)], argTypes := #[95, 3] }, type := 3, pos := "l12_prices.go:99", after := #[{ on := 8, ground := Ground.data }, { on := 6, ground := Ground.chain }], guard := none }) rfl (fun K hK => ?_) AllReadyH.nil))
        ·
          obtain ⟨tb, htb⟩ : ∃ q, z7.heap.size = q := ⟨_, rfl⟩
          obtain ⟨z8, hze⟩ : ∃ q, q = z7.alloc strs4 := ⟨_, rfl⟩
          have HIz8 : Hid (OInv w z8 B g a len cap (.slice va k vc) k l) := by rw [hze]; exact HIz7.out.alloc strs4
          obtain ⟨it, hit, hcz8⟩ : ∃ it : ByteArray, it.size ≤ 8 ∧ z8.cell? ⟨tb, j, none⟩ = some (.string it) := by rw [hze, ← htb]; exact strs4_at (heap_alloc_new z7 strs4) hlt
          have hbtz8 : tb < z8.heap.size := by rw [hze, ← htb]; show _ < (z7.heap.push _).size; simp
          have hgt : g < tb := by rw [← htb]; exact HIz7.out.rd.lt
          have hzl : z7.alloc (.cells #[.string ⟨#[101, 103, 103]⟩, .string ⟨#[109, 105, 108, 107]⟩, .string ⟨#[111, 97, 116]⟩, .string ⟨#[116, 101, 97]⟩] 9) = z8 := hze.symm
          clear hze
          go_simp
          refine hK.out _ _ trivial (fun hHeldB => ?_)
          clear hK K hHeldB
          (try simp only [Act.put, List.setIfInBounds_toArray, List.set_cons_zero, List.set_cons_succ])
          (try rw [hzl])
          (try rw [htb])
          clear hzl htb HIz7
          refine wpAnyH_take (i := 3) (oi := { dst := some 15, op := Op.indexAddr 132 (Operand.tmp 13) (Operand.tmp 14), type := 0, pos := "l12_prices.go:99", after := #[{ on := 1, ground := Ground.data }, { on := 2, ground := Ground.data }], guard := none }) (v := ?_) rfl (by kernel_rfl) (by kernel_rfl) (by kernel_rfl) (fun _ _ _ h => h) (Or.inl ⟨by rfl, ?_⟩) (by assumption) ?_
          rotate_left
          · intro w hSw
            (try dsimp only at hSw)
            first | (go_simp; done) | (go_simp; with_reducible rfl)
          (try simp only [Act.put, List.setIfInBounds_toArray, List.set_cons_zero, List.set_cons_succ])
          refine wpAnyH_ready (rs := [4, 9]) (by kernel_rfl) (by simp) ?_
          refine (AllReadyH.cons (o := { dst := some 16, op := Op.load 9 (Operand.tmp 15), type := 9, pos := "l12_prices.go:99", after := #[{ on := 3, ground := Ground.data }], guard := none }) rfl (fun K hK => ?_) (AllReadyH.cons (o := { dst := some 21, op := Op.call { callee := Callee.value (Operand.func 77), args := #[Operand.tmp 20, Operand.const (Value.int IntKind.i64 2)], argTypes := #[95, 3] }, type := 3, pos := "l12_prices.go:99", after := #[{ on := 8, ground := Ground.data }, { on := 6, ground := Ground.chain }], guard := none }) rfl (fun K hK => ?_) AllReadyH.nil))
          ·
            go_simp
            refine hK.out _ _ trivial (fun hHeldB => ?_)
            clear hK K hHeldB
            (try simp only [Act.put, List.setIfInBounds_toArray, List.set_cons_zero, List.set_cons_succ])
            refine wpAnyH_ready (rs := [9]) (by kernel_rfl) (by simp) ?_
            refine (AllReadyH.cons (o := { dst := some 21, op := Op.call { callee := Callee.value (Operand.func 77), args := #[Operand.tmp 20, Operand.const (Value.int IntKind.i64 2)], argTypes := #[95, 3] }, type := 3, pos := "l12_prices.go:99", after := #[{ on := 8, ground := Ground.data }, { on := 6, ground := Ground.chain }], guard := none }) rfl (fun K hK => ?_) AllReadyH.nil)
            go_simp
            go_at_call 77
            refine (belowI _ B g a len cap HIz8.out.rd 2 (by omega) (by omega)).mono ?_
            rintro e z9 ⟨v2, hv2, rfl, hg, hr⟩
            have HIz9 := Lib.hid (HIz8.out.step hg hr)
            have hv2n : v2 < 2 := hv2
            clear hg hr hv2 HIz8
            refine hK.out _ _ trivial (fun hHeldC => ?_)
            clear hK K hHeldC
            (try simp only [Act.put, List.setIfInBounds_toArray, List.set_cons_zero, List.set_cons_succ])
            refine wpAnyH_take (i := 10) (oi := { dst := some 22, op := Op.binOp BinOp.add 3 (Operand.const (Value.int IntKind.i64 1)) (Operand.tmp 21) 3, type := 3, pos := "l12_prices.go:99", after := #[{ on := 9, ground := Ground.data }], guard := none }) (v := ?_) rfl (by kernel_rfl) (by kernel_rfl) (by kernel_rfl) (fun _ _ _ h => h) (Or.inl ⟨by rfl, ?_⟩) (by assumption) ?_
            rotate_left
            · intro w hSw
              (try dsimp only at hSw)
              first | (go_simp; done) | (go_simp; with_reducible rfl)
            (try simp only [Act.put, List.setIfInBounds_toArray, List.set_cons_zero, List.set_cons_succ])
            refine wpAnyH_take (i := 11) (oi := { dst := some 23, op := Op.build 26 #[(0, Operand.tmp 16), (1, Operand.tmp 19), (2, Operand.tmp 22)], type := 26, pos := "l12_prices.go:99", after := #[{ on := 4, ground := Ground.data }, { on := 7, ground := Ground.data }, { on := 10, ground := Ground.data }], guard := none }) (v := ?_) rfl (by kernel_rfl) (by kernel_rfl) (by kernel_rfl) (fun _ _ _ h => h) (Or.inl ⟨by rfl, ?_⟩) (by assumption) ?_
            rotate_left
            · intro w hSw
              (try dsimp only at hSw)
              first | (go_simp; done) | (go_simp; with_reducible rfl)
            (try simp only [Act.put, List.setIfInBounds_toArray, List.set_cons_zero, List.set_cons_succ])
            obtain ⟨ua, uc, zz, hrun, hI9⟩ := HIz9.out.push it (IntKind.i64.wrap (1 + (v1 : Int))) (IntKind.i64.wrap (1 + (v2 : Int))) hit (by omega)
            have HI9 := Lib.hid hI9
            clear hI9
            refine wpAnyH_ready (rs := [12]) (by kernel_rfl) (by simp) ?_
            refine AllReadyH.cons (o := { dst := some 24, op := Op.buildSlice 39 1 #[(0, Operand.tmp 23)], type := 39, pos := "l12_prices.go:99", after := #[{ on := 11, ground := Ground.data }], guard := none }) rfl (fun K hK => ?_) AllReadyH.nil
            go_simp
            refine hK.out _ _ trivial (fun hHeldB => ?_)
            clear hK K hHeldB
            (try simp only [Act.put, List.setIfInBounds_toArray, List.set_cons_zero, List.set_cons_succ])
            refine wpAnyH_ready (rs := [13]) (by kernel_rfl) (by simp) ?_
            refine AllReadyH.cons (o := { dst := some 25, op := Op.call { callee := Callee.builtin Builtin.append, args := #[Operand.tmp 12, Operand.tmp 24], argTypes := #[39, 39] }, type := 39, pos := "l12_prices.go:99", after := #[{ on := 0, ground := Ground.data }, { on := 12, ground := Ground.data }, { on := 9, ground := Ground.chain }], guard := none }) rfl (fun K hK => ?_) AllReadyH.nil
            rw [if_pos (by rfl)]
            refine opwpO _ _ _ rfl _ _ rfl rfl hrun ?_
            refine hK.out _ _ trivial (fun hHeldA => ?_)
            clear hK K hHeldA
            (try simp only [Act.put, List.setIfInBounds_toArray, List.set_cons_zero, List.set_cons_succ])
            refine wpAnyH_take (i := 14) (oi := { dst := some 3, op := Op.assign (Operand.tmp 25), type := 39, pos := "l12_prices.go:99", after := #[{ on := 13, ground := Ground.data }, { on := 13, ground := Ground.chain }, { on := 0, ground := Ground.phase }, { on := 1, ground := Ground.phase }, { on := 2, ground := Ground.phase }, { on := 3, ground := Ground.phase }, { on := 4, ground := Ground.phase }, { on := 5, ground := Ground.phase }, { on := 6, ground := Ground.phase }, { on := 7, ground := Ground.phase }, { on := 8, ground := Ground.phase }, { on := 9, ground := Ground.phase }, { on := 10, ground := Ground.phase }, { on := 11, ground := Ground.phase }, { on := 12, ground := Ground.phase }, { on := 13, ground := Ground.phase }], guard := none }) (v := ?_) rfl (by kernel_rfl) (by kernel_rfl) (by kernel_rfl) (fun _ _ _ h => h) (Or.inl ⟨by rfl, ?_⟩) (by assumption) ?_
            rotate_left
            · intro w hSw
              (try dsimp only at hSw)
              first | (go_simp; done) | (go_simp; with_reducible rfl)
            (try simp only [Act.put, List.setIfInBounds_toArray, List.set_cons_zero, List.set_cons_succ])
            refine wpAnyH_done (by kernel_rfl) ?_ _
            refine hKR _ _ ?_
            go_wp2
            go_roundw
            case rel => exact ⟨k + 1, j + 1, uc, ua, _, by omega, by omega, rfl, by go_num, HI9⟩
            case measure => simp [intOf]; omega
          ·
            go_simp
            go_at_call 77
            refine (belowI _ B g a len cap HIz8.out.rd 2 (by omega) (by omega)).mono ?_
            rintro e z10 ⟨v2, hv2, rfl, hg, hr⟩
            have HIz10 := Lib.hid (HIz8.out.step hg hr)
            have hv2n : v2 < 2 := hv2
            have hcz10 : z10.cell? ⟨tb, j, none⟩ = some (.string it) := (World.cell?_of_block (a := ⟨tb, j, none⟩) (hg.block tb hbtz8 (by intro e; injection e with e; omega))).trans hcz8
            have hbtz10 : tb < z10.heap.size := Nat.lt_of_lt_of_le hbtz8 hg.size
            clear hcz8 hbtz8
            clear hg hr hv2 HIz8
            refine hK.out _ _ trivial (fun hHeldC => ?_)
            clear hK K hHeldC
            (try simp only [Act.put, List.setIfInBounds_toArray, List.set_cons_zero, List.set_cons_succ])
            refine wpAnyH_take (i := 10) (oi := { dst := some 22, op := Op.binOp BinOp.add 3 (Operand.const (Value.int IntKind.i64 1)) (Operand.tmp 21) 3, type := 3, pos := "l12_prices.go:99", after := #[{ on := 9, ground := Ground.data }], guard := none }) (v := ?_) rfl (by kernel_rfl) (by kernel_rfl) (by kernel_rfl) (fun _ _ _ h => h) (Or.inl ⟨by rfl, ?_⟩) (by assumption) ?_
            rotate_left
            · intro w hSw
              (try dsimp only at hSw)
              first | (go_simp; done) | (go_simp; with_reducible rfl)
            (try simp only [Act.put, List.setIfInBounds_toArray, List.set_cons_zero, List.set_cons_succ])
            refine wpAnyH_ready (rs := [4]) (by kernel_rfl) (by simp) ?_
            refine (AllReadyH.cons (o := { dst := some 16, op := Op.load 9 (Operand.tmp 15), type := 9, pos := "l12_prices.go:99", after := #[{ on := 3, ground := Ground.data }], guard := none }) rfl (fun K hK => ?_) AllReadyH.nil)
            go_simp
            refine hK.out _ _ trivial (fun hHeldB => ?_)
            clear hK K hHeldB
            (try simp only [Act.put, List.setIfInBounds_toArray, List.set_cons_zero, List.set_cons_succ])
            refine wpAnyH_take (i := 11) (oi := { dst := some 23, op := Op.build 26 #[(0, Operand.tmp 16), (1, Operand.tmp 19), (2, Operand.tmp 22)], type := 26, pos := "l12_prices.go:99", after := #[{ on := 4, ground := Ground.data }, { on := 7, ground := Ground.data }, { on := 10, ground := Ground.data }], guard := none }) (v := ?_) rfl (by kernel_rfl) (by kernel_rfl) (by kernel_rfl) (fun _ _ _ h => h) (Or.inl ⟨by rfl, ?_⟩) (by assumption) ?_
            rotate_left
            · intro w hSw
              (try dsimp only at hSw)
              first | (go_simp; done) | (go_simp; with_reducible rfl)
            (try simp only [Act.put, List.setIfInBounds_toArray, List.set_cons_zero, List.set_cons_succ])
            obtain ⟨ua, uc, zz, hrun, hI9⟩ := HIz10.out.push it (IntKind.i64.wrap (1 + (v1 : Int))) (IntKind.i64.wrap (1 + (v2 : Int))) hit (by omega)
            have HI9 := Lib.hid hI9
            clear hI9
            refine wpAnyH_ready (rs := [12]) (by kernel_rfl) (by simp) ?_
            refine AllReadyH.cons (o := { dst := some 24, op := Op.buildSlice 39 1 #[(0, Operand.tmp 23)], type := 39, pos := "l12_prices.go:99", after := #[{ on := 11, ground := Ground.data }], guard := none }) rfl (fun K hK => ?_) AllReadyH.nil
            go_simp
            refine hK.out _ _ trivial (fun hHeldB => ?_)
            clear hK K hHeldB
            (try simp only [Act.put, List.setIfInBounds_toArray, List.set_cons_zero, List.set_cons_succ])
            refine wpAnyH_ready (rs := [13]) (by kernel_rfl) (by simp) ?_
            refine AllReadyH.cons (o := { dst := some 25, op := Op.call { callee := Callee.builtin Builtin.append, args := #[Operand.tmp 12, Operand.tmp 24], argTypes := #[39, 39] }, type := 39, pos := "l12_prices.go:99", after := #[{ on := 0, ground := Ground.data }, { on := 12, ground := Ground.data }, { on := 9, ground := Ground.chain }], guard := none }) rfl (fun K hK => ?_) AllReadyH.nil
            rw [if_pos (by rfl)]
            refine opwpO _ _ _ rfl _ _ rfl rfl hrun ?_
            refine hK.out _ _ trivial (fun hHeldA => ?_)
            clear hK K hHeldA
            (try simp only [Act.put, List.setIfInBounds_toArray, List.set_cons_zero, List.set_cons_succ])
            refine wpAnyH_take (i := 14) (oi := { dst := some 3, op := Op.assign (Operand.tmp 25), type := 39, pos := "l12_prices.go:99", after := #[{ on := 13, ground := Ground.data }, { on := 13, ground := Ground.chain }, { on := 0, ground := Ground.phase }, { on := 1, ground := Ground.phase }, { on := 2, ground := Ground.phase }, { on := 3, ground := Ground.phase }, { on := 4, ground := Ground.phase }, { on := 5, ground := Ground.phase }, { on := 6, ground := Ground.phase }, { on := 7, ground := Ground.phase }, { on := 8, ground := Ground.phase }, { on := 9, ground := Ground.phase }, { on := 10, ground := Ground.phase }, { on := 11, ground := Ground.phase }, { on := 12, ground := Ground.phase }, { on := 13, ground := Ground.phase }], guard := none }) (v := ?_) rfl (by kernel_rfl) (by kernel_rfl) (by kernel_rfl) (fun _ _ _ h => h) (Or.inl ⟨by rfl, ?_⟩) (by assumption) ?_
            rotate_left
            · intro w hSw
              (try dsimp only at hSw)
              first | (go_simp; done) | (go_simp; with_reducible rfl)
            (try simp only [Act.put, List.setIfInBounds_toArray, List.set_cons_zero, List.set_cons_succ])
            refine wpAnyH_done (by kernel_rfl) ?_ _
            refine hKR _ _ ?_
            go_wp2
            go_roundw
            case rel => exact ⟨k + 1, j + 1, uc, ua, _, by omega, by omega, rfl, by go_num, HI9⟩
            case measure => simp [intOf]; omega
        ·
          go_simp
          go_at_call 77
          refine (belowI _ B g a len cap HIz7.out.rd 2 (by omega) (by omega)).mono ?_
          rintro e z11 ⟨v2, hv2, rfl, hg, hr⟩
          have HIz11 := Lib.hid (HIz7.out.step hg hr)
          have hv2n : v2 < 2 := hv2
          clear hg hr hv2 HIz7
          refine hK.out _ _ trivial (fun hHeldC => ?_)
          clear hK K hHeldC
          (try simp only [Act.put, List.setIfInBounds_toArray, List.set_cons_zero, List.set_cons_succ])
          refine wpAnyH_take (i := 10) (oi := { dst := some 22, op := Op.binOp BinOp.add 3 (Operand.const (Value.int IntKind.i64 1)) (Operand.tmp 21) 3, type := 3, pos := "l12_prices.go:99", after := #[{ on := 9, ground := Ground.data }], guard := none }) (v := ?_) rfl (by kernel_rfl) (by kernel_rfl) (by kernel_rfl) (fun _ _ _ h => h) (Or.inl ⟨by rfl, ?_⟩) (by assumption) ?_
          rotate_left
          · intro w hSw
            (try dsimp only at hSw)
            first | (go_simp; done) | (go_simp; with_reducible rfl)
          (try simp only [Act.put, List.setIfInBounds_toArray, List.set_cons_zero, List.set_cons_succ])
          refine wpAnyH_ready (rs := [1]) (by kernel_rfl) (by simp) ?_
          refine (AllReadyH.cons (o := { dst := some 13, op := Op.buildSlice 132 4 #[(0, Operand.const (Value.string { data := #[101, 103, 103] })), (1, Operand.const (Value.string { data := #[109, 105, 108, 107] })), (2, Operand.const (Value.string { data := #[111, 97, 116] })), (3, Operand.const (Value.string { data := #[116, 101, 97] }))], type := 132, pos := "l12_prices.go:99", after := #[], guard := none }) rfl (fun K hK => ?_) AllReadyH.nil)
          obtain ⟨tb, htb⟩ : ∃ q, z11.heap.size = q := ⟨_, rfl⟩
          obtain ⟨z12, hze⟩ : ∃ q, q = z11.alloc strs4 := ⟨_, rfl⟩
          have HIz12 : Hid (OInv w z12 B g a len cap (.slice va k vc) k l) := by rw [hze]; exact HIz11.out.alloc strs4
          obtain ⟨it, hit, hcz12⟩ : ∃ it : ByteArray, it.size ≤ 8 ∧ z12.cell? ⟨tb, j, none⟩ = some (.string it) := by rw [hze, ← htb]; exact strs4_at (heap_alloc_new z11 strs4) hlt
          have hbtz12 : tb < z12.heap.size := by rw [hze, ← htb]; show _ < (z11.heap.push _).size; simp
          have hgt : g < tb := by rw [← htb]; exact HIz11.out.rd.lt
          have hzl : z11.alloc (.cells #[.string ⟨#[101, 103, 103]⟩, .string ⟨#[109, 105, 108, 107]⟩, .string ⟨#[111, 97, 116]⟩, .string ⟨#[116, 101, 97]⟩] 9) = z12 := hze.symm
          clear hze
          go_simp
          refine hK.out _ _ trivial (fun hHeldB => ?_)
          clear hK K hHeldB
          (try simp only [Act.put, List.setIfInBounds_toArray, List.set_cons_zero, List.set_cons_succ])
          (try rw [hzl])
          (try rw [htb])
          clear hzl htb HIz11
          refine wpAnyH_take (i := 3) (oi := { dst := some 15, op := Op.indexAddr 132 (Operand.tmp 13) (Operand.tmp 14), type := 0, pos := "l12_prices.go:99", after := #[{ on := 1, ground := Ground.data }, { on := 2, ground := Ground.data }], guard := none }) (v := ?_) rfl (by kernel_rfl) (by kernel_rfl) (by kernel_rfl) (fun _ _ _ h => h) (Or.inl ⟨by rfl, ?_⟩) (by assumption) ?_
          rotate_left
          · intro w hSw
            (try dsimp only at hSw)
            first | (go_simp; done) | (go_simp; with_reducible rfl)
          (try simp only [Act.put, List.setIfInBounds_toArray, List.set_cons_zero, List.set_cons_succ])
          refine wpAnyH_ready (rs := [4]) (by kernel_rfl) (by simp) ?_
          refine (AllReadyH.cons (o := { dst := some 16, op := Op.load 9 (Operand.tmp 15), type := 9, pos := "l12_prices.go:99", after := #[{ on := 3, ground := Ground.data }], guard := none }) rfl (fun K hK => ?_) AllReadyH.nil)
          go_simp
          refine hK.out _ _ trivial (fun hHeldB => ?_)
          clear hK K hHeldB
          (try simp only [Act.put, List.setIfInBounds_toArray, List.set_cons_zero, List.set_cons_succ])
          refine wpAnyH_take (i := 11) (oi := { dst := some 23, op := Op.build 26 #[(0, Operand.tmp 16), (1, Operand.tmp 19), (2, Operand.tmp 22)], type := 26, pos := "l12_prices.go:99", after := #[{ on := 4, ground := Ground.data }, { on := 7, ground := Ground.data }, { on := 10, ground := Ground.data }], guard := none }) (v := ?_) rfl (by kernel_rfl) (by kernel_rfl) (by kernel_rfl) (fun _ _ _ h => h) (Or.inl ⟨by rfl, ?_⟩) (by assumption) ?_
          rotate_left
          · intro w hSw
            (try dsimp only at hSw)
            first | (go_simp; done) | (go_simp; with_reducible rfl)
          (try simp only [Act.put, List.setIfInBounds_toArray, List.set_cons_zero, List.set_cons_succ])
          obtain ⟨ua, uc, zz, hrun, hI9⟩ := HIz12.out.push it (IntKind.i64.wrap (1 + (v1 : Int))) (IntKind.i64.wrap (1 + (v2 : Int))) hit (by omega)
          have HI9 := Lib.hid hI9
          clear hI9
          refine wpAnyH_ready (rs := [12]) (by kernel_rfl) (by simp) ?_
          refine AllReadyH.cons (o := { dst := some 24, op := Op.buildSlice 39 1 #[(0, Operand.tmp 23)], type := 39, pos := "l12_prices.go:99", after := #[{ on := 11, ground := Ground.data }], guard := none }) rfl (fun K hK => ?_) AllReadyH.nil
          go_simp
          refine hK.out _ _ trivial (fun hHeldB => ?_)
          clear hK K hHeldB
          (try simp only [Act.put, List.setIfInBounds_toArray, List.set_cons_zero, List.set_cons_succ])
          refine wpAnyH_ready (rs := [13]) (by kernel_rfl) (by simp) ?_
          refine AllReadyH.cons (o := { dst := some 25, op := Op.call { callee := Callee.builtin Builtin.append, args := #[Operand.tmp 12, Operand.tmp 24], argTypes := #[39, 39] }, type := 39, pos := "l12_prices.go:99", after := #[{ on := 0, ground := Ground.data }, { on := 12, ground := Ground.data }, { on := 9, ground := Ground.chain }], guard := none }) rfl (fun K hK => ?_) AllReadyH.nil
          rw [if_pos (by rfl)]
          refine opwpO _ _ _ rfl _ _ rfl rfl hrun ?_
          refine hK.out _ _ trivial (fun hHeldA => ?_)
          clear hK K hHeldA
          (try simp only [Act.put, List.setIfInBounds_toArray, List.set_cons_zero, List.set_cons_succ])
          refine wpAnyH_take (i := 14) (oi := { dst := some 3, op := Op.assign (Operand.tmp 25), type := 39, pos := "l12_prices.go:99", after := #[{ on := 13, ground := Ground.data }, { on := 13, ground := Ground.chain }, { on := 0, ground := Ground.phase }, { on := 1, ground := Ground.phase }, { on := 2, ground := Ground.phase }, { on := 3, ground := Ground.phase }, { on := 4, ground := Ground.phase }, { on := 5, ground := Ground.phase }, { on := 6, ground := Ground.phase }, { on := 7, ground := Ground.phase }, { on := 8, ground := Ground.phase }, { on := 9, ground := Ground.phase }, { on := 10, ground := Ground.phase }, { on := 11, ground := Ground.phase }, { on := 12, ground := Ground.phase }, { on := 13, ground := Ground.phase }], guard := none }) (v := ?_) rfl (by kernel_rfl) (by kernel_rfl) (by kernel_rfl) (fun _ _ _ h => h) (Or.inl ⟨by rfl, ?_⟩) (by assumption) ?_
          rotate_left
          · intro w hSw
            (try dsimp only at hSw)
            first | (go_simp; done) | (go_simp; with_reducible rfl)
          (try simp only [Act.put, List.setIfInBounds_toArray, List.set_cons_zero, List.set_cons_succ])
          refine wpAnyH_done (by kernel_rfl) ?_ _
          refine hKR _ _ ?_
          go_wp2
          go_roundw
          case rel => exact ⟨k + 1, j + 1, uc, ua, _, by omega, by omega, rfl, by go_num, HI9⟩
          case measure => simp [intOf]; omega
    · obtain rfl : j = 4 := by omega
      go_wp2_with fail
      refine (once wr B g a len cap HI.out.rd 20 (by omega) (by omega)).mono ?_
      rintro e w1 ⟨o1, rfl, hg1, hr1⟩
      have HI1 := Lib.hid (HI.out.step hg1 hr1)
      clear hg1 hr1 HI
      rcases o1 with _ | _
      · go_wp2
        go_ret
        exact ⟨va, k, vc, l, hkj, rfl, HI1.out⟩
      by_cases h0 : k = 0
      · subst h0
        go_wp2
        go_ret
        exact ⟨va, 0, vc, l, hkj, rfl, HI1.out⟩
      have hk0 : ((k : Int) > 0) := by omega
      obtain ⟨q, hq⟩ : ∃ q, va = some ⟨q, 0, none⟩ := by
        obtain ⟨va', vc', e, hf⟩ := HI1.out.form
        injection e with e1 e2 e3
        subst e1
        exact hf (by omega)
      subst hq
      go_wp2_with fail
      refine (off99 w1 B g a len cap HI1.out.rd).mono ?_
      rintro e w2 ⟨X, rfl, hg2, hr2⟩
      have hI2 := HI1.out.step hg2 hr2
      obtain ⟨x, l', rfl⟩ : ∃ x l', l = x :: l' := by
        cases l with
        | nil => have := hI2.num; simp at this; omega
        | cons x l' => exact ⟨x, l', rfl⟩
      obtain ⟨k', rfl⟩ : ∃ k', k = k' + 1 := ⟨k - 1, by omega⟩
      obtain ⟨hI3, ⟨v, c0⟩, f0⟩ := hI2.store X
      have HI3 := Lib.hid hI3
      have hk1 : (0 : Int) < ((k' + 1 : Nat) : Int) := by omega
      clear hg2 hr2 hI2 hI3 h0 hk0 HI1
      go_wp2
      go_ret
      exact ⟨some ⟨q, 0, none⟩, k' + 1, vc, _, hkj, rfl, HI3.out⟩
end Go.Proofs.Ytjmilgijdfibbaa
