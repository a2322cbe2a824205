/- Walks and mathematics that several claims share, part 48. -/
import Derived.Test.YtjokbaaommicmaaGreatDoorGb47
import Derived.Test.YtjokbaaommicmaaGreatDoorGb43
import Derived.Laws.CopyRow
import Derived.Lib.SliceRun
import Derived.Deep.Cut
import Derived.Lib.Hide
import Derived.Test.YtjokbaaommicmaaGreatDoorGbA
namespace Go.Proofs.YtjokbaaommicmaaGreatDoor
set_option maxRecDepth 100000
open Go.RowKit
set_option linter.unusedVariables false
set_option linter.unusedSimpArgs false

theorem ln3_cells {w : World} {b : Nat} {v0 v1 v2 : Value} {T : TypeId} {fr : Nat × Nat} (h : w.heap[b]? = some (.cells #[v0, v1, v2] T fr)) : w.cell? ⟨b, 0, none⟩ = some v0 ∧ w.cell? ⟨b, 1, none⟩ = some v1 ∧ w.cell? ⟨b, 2, none⟩ = some v2 :=
 ⟨cell_of_row _ _ _ _ _ _ h, cell_of_row _ _ _ _ _ _ h, cell_of_row _ _ _ _ _ _ h⟩
theorem savedFn (x : LnV) (w : World) : Calls Tryz.prog 118 #[.agg #[.string x.item, .int .i64 x.qty, .bool x.saved]] w fun e w' => e = .returned (.bool x.saved) ∧ Below w.heap.size w w' := by
 have HB := Lib.hid ((Below.refl w.heap.size w).alloc (Nat.le_refl _) (.cells #[.string x.item, .int .i64 x.qty, .bool x.saved] 172))
 have HN := Lib.hid (heap_alloc_new w (.cells #[.string x.item, .int .i64 x.qty, .bool x.saved] 172))
 go_enter Tryz.func118, Tryz.ntmps118
 go_upto_region 1 with fail
 generalize w.alloc (.cells #[.string x.item, .int .i64 x.qty, .bool x.saved] 172) = w1 at HB HN ⊢
 obtain ⟨c0, c1, c2⟩ := ln3_cells HN.out
 go_wp2
 go_ret
 exact ⟨rfl, HB.out⟩
/-- The first line that is saved; -1: there is none. -/
def firstS (l : List LnV) : Int := if l.findIdx (·.saved) < l.length then ((l.findIdx (·.saved) : Nat) : Int) else -1
theorem firstS_at {l : List LnV} {k : Nat} (hk : k < l.length) (h : ∀ j, j < k → (l.getD j LnV.zero).saved = false) (hs : (l.getD k LnV.zero).saved = true) : firstS l = (k : Int) := by
 have e : l.findIdx (·.saved) = k := by
  rw [List.findIdx_eq hk]
  refine ⟨?_, fun j hj => ?_⟩
  ·rw [List.getD_eq_getElem?_getD, List.getElem?_eq_getElem hk] at hs
   exact hs
  ·have := h j hj
   rw [List.getD_eq_getElem?_getD, List.getElem?_eq_getElem (by omega)] at this
   exact this
 unfold firstS
 rw [e, if_pos hk]
theorem firstS_none {l : List LnV} (h : ∀ j, j < l.length → (l.getD j LnV.zero).saved = false) : firstS l = -1 := by
 unfold firstS
 rw [if_neg]
 intro hlt
 have hp := List.findIdx_getElem (w := hlt)
 have := h _ hlt
 rw [List.getD_eq_getElem?_getD, List.getElem?_eq_getElem hlt] at this
 have h2 : (l[l.findIdx (·.saved)]).saved = false := this
 have h3 : (l[l.findIdx (·.saved)]).saved = true := hp
 rw [h2] at h3
 cases h3
set_option maxHeartbeats 20000000 in
theorem indexFuncW (w : World) (B : Nat) (a : Option Addr) (n c : Nat) (l : List LnV) (h : Lns w B a n l) (hB : B ≤ w.heap.size) (hn : n ≤ 1048576) :
  Calls Tryz.prog 127 #[.slice a n c, .func (.func 118) #[] #[]] w fun e w' => e = .returned (.int .i64 (firstS l)) ∧ Below w.heap.size w w' := by
 have HO := Lib.hid h
 have HL := Lib.hid h.1
 clear h
 go_enter Tryz.func127, Tryz.ntmps127
 go_wp2
 go_loopw [8] (fun i wr => ∃ k : Nat, k ≤ n ∧ i = .int .i64 (k : Int) ∧ Hid (∀ j, j < k → (l.getD j LnV.zero).saved = false) ∧ Hid (Below w.heap.size w wr)) (fun i _ => n - (intOf i).toNat)
 case atStart => exact ⟨0, Nat.zero_le _, rfl, fun j hj => absurd hj (by omega), Below.refl _ _⟩
 case round =>
  obtain ⟨k, hk, rfl, HF, HB⟩ := hrel
  by_cases hlt : k < n
  rotate_left
  ·obtain rfl : k = n := by omega
   have HR : Hid (firstS l = -1) := firstS_none (fun j hj => HF.out j (by have := HL.out; omega))
   go_wp2
   go_ret
   exact ⟨by rw [HR.out]; rfl, HB.out⟩
  obtain ⟨b, off, rfl, hb, hc⟩ := HO.out.2 k hlt
  have hki : (k : Int) < (n : Int) := by omega
  obtain ⟨c0, c1, c2⟩ := hc.kept (HB.out.block b (by omega))
  have HNx : Hid ((l.getD k LnV.zero).saved = false → ∀ j, j < k + 1 → (l.getD j LnV.zero).saved = false) := fun h0 j hj => by
   rcases Nat.lt_or_ge j k with q | q
   ·exact HF.out j q
   ·obtain rfl : j = k := by omega
    exact h0
  have HHit : Hid ((l.getD k LnV.zero).saved = true → firstS l = (k : Int)) := fun h1 => firstS_at (by have := HL.out; omega) HF.out h1
  clear hc HF
  generalize l.getD k LnV.zero = x at c0 c1 c2 HNx HHit
  go_wp2_with fail
  refine (savedFn x wr).mono ?_
  rintro e w2 ⟨rfl, hb2⟩
  have HB2 := Lib.hid (HB.out.trans (hb2.mono HB.out.size))
  clear hb2 c0 c1 c2 HB
  obtain ⟨xi, xq, xs⟩ := x
  dsimp only at HNx HHit ⊢
  cases xs
  ·go_wp2
   go_roundw
   case rel => exact ⟨k + 1, by omega, by go_num, HNx.out rfl, HB2⟩
   case measure => simp [intOf]; omega
  ·have HR := Lib.hid (HHit.out rfl)
   go_wp2
   go_ret
   exact ⟨by rw [HR.out]; rfl, HB2.out⟩
set_option linter.unusedVariables false
set_option linter.unusedSimpArgs false

def keepS (l : List LnV) : List LnV := l.filter fun x => !x.saved
theorem keepS_step {l : List LnV} {j : Nat} (hj : j < l.length) : keepS (l.take (j + 1)) = if (l.getD j LnV.zero).saved = true then keepS (l.take j) else keepS (l.take j) ++ [l.getD j LnV.zero] := by
 have e : l.take (j + 1) = l.take j ++ [l.getD j LnV.zero] := by
  rw [List.take_succ_eq_append_getElem hj, List.getD_eq_getElem?_getD, List.getElem?_eq_getElem hj]
  rfl
 rw [e]
 unfold keepS
 rw [List.filter_append]
 by_cases h : (l.getD j LnV.zero).saved = true
 ·rw [if_pos h, List.filter_cons, if_neg (by rw [h]; decide)]
  simp
 ·have h' : (l.getD j LnV.zero).saved = false := Bool.eq_false_iff.2 h
  rw [if_neg h, List.filter_cons, if_pos (by rw [h']; rfl)]
  rfl
theorem keepS_len (l : List LnV) (j : Nat) : (keepS (l.take j)).length ≤ j := by
 have h1 : (keepS (l.take j)).length ≤ (l.take j).length := List.length_filter_le _ _
 rw [List.length_take] at h1
 omega
theorem keepS_first {l : List LnV} {k : Nat} (hk : k ≤ l.length) (h : ∀ j, j < k → (l.getD j LnV.zero).saved = false) : keepS (l.take k) = l.take k := by
 unfold keepS
 rw [List.filter_eq_self]
 intro x hx
 obtain ⟨j, hj, rfl⟩ := List.getElem_of_mem hx
 rw [List.length_take] at hj
 have := h j (by omega)
 rw [List.getD_eq_getElem?_getD, List.getElem?_eq_getElem (by omega)] at this
 rw [List.getElem_take]
 simpa using this
theorem firstS_of {l : List LnV} {k : Nat} (h : firstS l = (k : Int)) : k < l.length ∧ (∀ j, j < k → (l.getD j LnV.zero).saved = false) ∧ (l.getD k LnV.zero).saved = true := by
 unfold firstS at h
 split at h
 ·rename_i hlt
  have e : l.findIdx (·.saved) = k := by omega
  subst e
  refine ⟨hlt, fun j hj => ?_, ?_⟩
  ·have := List.not_of_lt_findIdx hj
   rw [List.getD_eq_getElem?_getD, List.getElem?_eq_getElem (by omega)]
   simpa using this
  ·have := List.findIdx_getElem (w := hlt)
   rw [List.getD_eq_getElem?_getD, List.getElem?_eq_getElem hlt]
   exact this
 ·omega
theorem firstS_no {l : List LnV} (h : firstS l = -1) : keepS l = l := by
 unfold firstS at h
 split at h
 ·omega
 ·rename_i hn
  unfold keepS
  rw [List.filter_eq_self]
  intro x hx
  cases hs : x.saved
  ·rfl
  ·exact absurd (List.findIdx_lt_length_of_exists ⟨x, hx, hs⟩) hn
theorem getD_app_lt {A : List LnV} {x : LnV} {t : Nat} (h : t < A.length) : (A ++ [x]).getD t LnV.zero = A.getD t LnV.zero := by
 rw [List.getD_eq_getElem?_getD, List.getElem?_append_left h, ← List.getD_eq_getElem?_getD]
theorem getD_app_eq {A : List LnV} {x : LnV} {t : Nat} (h : A.length = t) : (A ++ [x]).getD t LnV.zero = x := by
 rw [List.getD_eq_getElem?_getD, List.getElem?_append_right (by omega), h, Nat.sub_self]
 rfl
/-- How far the walk has come: j lines are looked at, m of them are kept. -/
structure DelI (w : World) (lo g n : Nat) (l : List LnV) (j m : Nat) (wr : World) : Prop where
 bel : Below lo w wr
 row : ∃ cs : Array Value, wr.heap[g]? = some (.cells cs 172 (0, 0)) ∧ n * 3 ≤ cs.size ∧ (∀ t, t < m → LnIn cs (t * 3) ((keepS (l.take j)).getD t LnV.zero)) ∧ ∀ t, j ≤ t → t < n → LnIn cs (t * 3) (l.getD t LnV.zero)
 len : (keepS (l.take j)).length = m
theorem DelI.next {w : World} {lo g n : Nat} {l : List LnV} {j m : Nat} {wr w2 : World} (h : DelI w lo g n l j m wr) (hb : Below wr.heap.size wr w2) (hlo : lo ≤ w.heap.size) : DelI w lo g n l j m w2 := by
 obtain ⟨cs, hg, r⟩ := h.row
 exact ⟨h.bel.trans (hb.mono (Nat.le_trans hlo h.bel.size)), ⟨cs, (hb.block _ (Array.getElem?_eq_some_iff.1 hg).1).trans hg, r⟩, h.len⟩
theorem DelI.skip {w : World} {lo g n : Nat} {l : List LnV} {j m : Nat} {wr : World} (h : DelI w lo g n l j m wr) (hj : j < l.length) (hs : (l.getD j LnV.zero).saved = true) : DelI w lo g n l (j + 1) m wr := by
 obtain ⟨cs, hg, h1, h2, h3⟩ := h.row
 have e : keepS (l.take (j + 1)) = keepS (l.take j) := by rw [keepS_step hj, if_pos hs]
 exact ⟨h.bel, ⟨cs, hg, h1, by rw [e]; exact h2, fun t a b => h3 t (by omega) b⟩, by rw [e]; exact h.len⟩
def set3 (w : World) (g o : Nat) (x : LnV) : World := ((w.setCell ⟨g, o, none⟩ (.string x.item)).setCell ⟨g, o + 1, none⟩ (.int .i64 x.qty)).setCell ⟨g, o + 2, none⟩ (.bool x.saved)
theorem set3_row {w : World} {g o : Nat} {x : LnV} {cs : Array Value} {T : TypeId} (h : w.heap[g]? = some (.cells cs T (0, 0))) : (set3 w g o x).heap[g]? = some (.cells (((cs.setIfInBounds o (.string x.item)).setIfInBounds (o + 1) (.int .i64 x.qty)).setIfInBounds (o + 2) (.bool x.saved)) T (0, 0)) :=
 heap_setCell_same _ _ _ _ _ _ (heap_setCell_same _ _ _ _ _ _ (heap_setCell_same _ _ _ _ _ _ h))
theorem LnIn_set {cs : Array Value} {o : Nat} {x : LnV} (h : o + 3 ≤ cs.size) : LnIn (((cs.setIfInBounds o (.string x.item)).setIfInBounds (o + 1) (.int .i64 x.qty)).setIfInBounds (o + 2) (.bool x.saved)) o x := by
 refine ⟨?_, ?_, ?_⟩
 ·rw [Array.getElem?_setIfInBounds_ne (by omega), Array.getElem?_setIfInBounds_ne (by omega), Array.getElem?_setIfInBounds_self_of_lt (by omega)]
 ·rw [Array.getElem?_setIfInBounds_ne (by omega), Array.getElem?_setIfInBounds_self_of_lt (by simp; omega)]
 ·rw [Array.getElem?_setIfInBounds_self_of_lt (by simp; omega)]
theorem LnIn_off {cs : Array Value} {o p : Nat} {x y : LnV} (h : LnIn cs p y) (hp : p + 3 ≤ o ∨ o + 3 ≤ p) : LnIn (((cs.setIfInBounds o (.string x.item)).setIfInBounds (o + 1) (.int .i64 x.qty)).setIfInBounds (o + 2) (.bool x.saved)) p y := by
 obtain ⟨h0, h1, h2⟩ := h
 refine ⟨?_, ?_, ?_⟩ <;> rw [Array.getElem?_setIfInBounds_ne (by omega), Array.getElem?_setIfInBounds_ne (by omega), Array.getElem?_setIfInBounds_ne (by omega)] <;> assumption
theorem DelI.put {w : World} {lo g n : Nat} {l : List LnV} {j m : Nat} {wr : World} (h : DelI w lo g n l j m wr) (hl : l.length = n) (hj : j < n) (hs : (l.getD j LnV.zero).saved = false) (hlo : lo ≤ g) : DelI w lo g n l (j + 1) (m + 1) (set3 wr g (m * 3) (l.getD j LnV.zero)) := by
 obtain ⟨cs, hg, h1, h2, h3⟩ := h.row
 have hm : m ≤ j := by rw [← h.len]; exact keepS_len l j
 have e : keepS (l.take (j + 1)) = keepS (l.take j) ++ [l.getD j LnV.zero] := by rw [keepS_step (by omega), if_neg (by rw [hs]; decide)]
 refine ⟨((h.bel.setCell (p := ⟨g, m * 3, none⟩) hlo _).setCell (p := ⟨g, m * 3 + 1, none⟩) hlo _).setCell (p := ⟨g, m * 3 + 2, none⟩) hlo _, ⟨_, set3_row hg, by simpa using h1, fun t ht => ?_, fun t a b => LnIn_off (h3 t (by omega) b) (by omega)⟩, by rw [e, List.length_append, h.len]; rfl⟩
 rw [e]
 rcases Nat.lt_or_ge t m with q | q
 ·rw [getD_app_lt (by rw [h.len]; exact q)]
  exact LnIn_off (h2 t q) (by omega)
 ·obtain rfl : t = m := by omega
  rw [getD_app_eq h.len]
  exact LnIn_set (by omega)
theorem lnZero (w : World) : (zeroValue 172).run Tryz.prog w = .ok (.agg #[.string ⟨#[]⟩, .int .i64 0, .bool false]) w := by kernel_rfl
theorem zeroLn_one : ∀ (n : Nat), ∀ v ∈ (Builtin.zeroCells (Value.agg #[.string ⟨#[]⟩, .int .i64 0, .bool false]).cells n).toList, v.oneCell' = true := by
 intro n v hv
 rw [Array.mem_toList_iff] at hv
 unfold Builtin.zeroCells at hv
 obtain ⟨i, hi, rfl⟩ := Array.mem_map.1 hv
 show ((#[Value.string ⟨#[]⟩, .int .i64 0, .bool false] : Array Value)[i % 3]!).oneCell' = true
 have : i % 3 < 3 := Nat.mod_lt _ (by omega)
 match i % 3, this with
 | 0, _ => rfl
 | 1, _ => rfl
 | 2, _ => rfl
/-- What lies behind the kept ones is cleared. -/
theorem DelI.clear {w : World} {lo g n : Nat} {l : List LnV} {m : Nat} {wr : World} (h : DelI w lo g n l n m wr) (hm : m < n) (hlo : lo ≤ g) : ∃ w2, (∀ ty c, (Builtin.clear_ #[169] ty #[.slice (some ⟨g, m * 3, none⟩) (n - m) c]).run Tryz.prog wr = .ok (.tuple #[]) w2) ∧ DelI w lo g n l n m w2 := by
 obtain ⟨cs, hg, h1, h2, h3⟩ := h.row
 obtain ⟨Z, hZ⟩ : ∃ Z, Z = (Builtin.zeroCells (Value.agg #[.string ⟨#[]⟩, .int .i64 0, .bool false]).cells (n - m)).toList := ⟨_, rfl⟩
 have hzl : Z.length = (n - m) * 3 := by
  rw [hZ, Array.length_toList, size_zeroCells]
  rfl
 have hst := run_storeCells_at (P := Tryz.prog) g (m * 3) 172 Z 0 cs wr hg (by rw [hzl]; omega) (by rw [hZ]; exact zeroLn_one _)
 refine ⟨wr.setRow g (cs.toList.take (m * 3 + 0) ++ Z ++ cs.toList.drop (m * 3 + 0 + Z.length)).toArray, fun ty c => ?_, ?_⟩
 ·obtain ⟨k, hk⟩ : ∃ k, n - m = k + 1 := ⟨n - m - 1, by omega⟩
  rw [hk] at hZ ⊢
  have hz2 := hZ.symm
  simp [Builtin.clear_, run_underlying Tryz.underlying169, lnZero, hz2, hst]
 ·have hoth : ∀ (cs' : Array Value) k, k ≠ g → (wr.setRow g cs').heap[k]? = wr.heap[k]? := fun cs' k hk => setRow_other wr g k _ hk
  refine ⟨h.bel.trans ⟨rfl, rfl, rfl, Nat.le_of_eq (by show wr.heap.size = (wr.heap.modify g _).size; rw [Array.size_modify]), fun k hk => hoth _ k (by omega)⟩, ⟨_, setRow_heap wr g cs _ _ _ hg, ?_, fun t ht => ?_, fun t a b => absurd b (by omega)⟩, h.len⟩
  ·simp only [List.size_toArray, List.length_append, List.length_take, List.length_drop, hzl, Array.length_toList]
   omega
  ·obtain ⟨a0, a1, a2⟩ := h2 t ht
   have key : ∀ u, u < 3 → (((cs.toList.take (m * 3 + 0)) ++ Z ++ cs.toList.drop (m * 3 + 0 + (Z).length)).toArray)[t * 3 + u]? = cs[t * 3 + u]? := fun u hu => by
    rw [List.getElem?_toArray, List.append_assoc, List.getElem?_append_left (by rw [List.length_take, Array.length_toList]; omega), List.getElem?_take_of_lt (by omega), Array.getElem?_toList]
   exact ⟨(key 0 (by omega)).trans a0, (key 1 (by omega)).trans a1, (key 2 (by omega)).trans a2⟩
set_option linter.unusedVariables false
set_option linter.unusedSimpArgs false

/-- What is handed back: the lines that stay, in the same row. -/
def DelP (lo : Nat) (F : List LnV) (w : World) (e : Ending) (w' : World) : Prop := ∃ a c, e = .returned (.slice a F.length c) ∧ Lns w' w'.heap.size a F.length F ∧ F.length ≤ c ∧ Below lo w w'
theorem LnIn_zero {cs : Array Value} {p : Nat} {x : LnV} (h : LnIn cs p x) {w : World} {g : Nat} {T : TypeId} (hg : w.heap[g]? = some (.cells cs T (0, 0))) : LnAt w g (0 + p) x := by
 rw [Nat.zero_add]
 exact h.at hg
theorem ln_of_row {w : World} {lo : Nat} {a : Option Addr} {n c : Nat} {l : List LnV} (h : w.ownsRow lo 172 3 (.slice a n c) n (lnCells l)) : Lns w w.heap.size a n l := by
 obtain ⟨a', c', e, hown⟩ := ownLns_of_cells h (Nat.le_refl _)
 injection e with e1 _ _
 subst e1
 exact hown.rows
theorem deleteFuncNo (w : World) (lo : Nat) (a : Option Addr) (n c : Nat) (l : List LnV) (hown : w.ownsRow lo 172 3 (.slice a n c) n (lnCells l)) (hlo : lo ≤ w.heap.size) (hn : n ≤ 1048576) (hno : firstS l = -1) :
  Calls Tryz.prog 116 #[.slice a n c, .func (.func 118) #[] #[]] w (DelP lo (keepS l) w) := by
 have hl : l.length = n := by have := hown.1; rw [lnCells_len] at this; omega
 have HK := Lib.hid (firstS_no hno)
 have hlns := ln_of_row hown
 have HLn := Lib.hid hlns
 have HCa := Lib.hid (caps_of_row hown).1
 have HL := Lib.hid hl
 clear hown hl hlns
 go_enter Tryz.func116, Tryz.ntmps116
 go_wp2_with fail
 refine (indexFuncW w w.heap.size a n c l HLn.out (Nat.le_refl _) hn).mono ?_
 rintro e w1 ⟨rfl, hb1⟩
 rw [hno]
 have HB := Lib.hid hb1
 clear hb1 hno
 go_wp2
 go_ret
 refine ⟨a, c, by rw [HK.out, HL.out]; rfl, ?_, by rw [HK.out, HL.out]; exact HCa.out, HB.out.mono hlo⟩
 rw [HK.out, HL.out]
 exact (HLn.out.below HB.out (Nat.le_refl _)).more HB.out.size
set_option maxHeartbeats 40000000 in
theorem deleteFuncYes (w : World) (lo g n c k : Nat) (l : List LnV) (hown : w.ownsRow lo 172 3 (.slice (some ⟨g, 0, none⟩) n c) n (lnCells l)) (hlo : lo ≤ w.heap.size) (hn : n ≤ 1048576) (hyes : firstS l = (k : Int)) :
  Calls Tryz.prog 116 #[.slice (some ⟨g, 0, none⟩) n c, .func (.func 118) #[] #[]] w (DelP lo (keepS l) w) := by
 have hl : l.length = n := by have := hown.1; rw [lnCells_len] at this; omega
 obtain ⟨f1, f2, f3⟩ := firstS_of hyes
 have hcap := (caps_of_row hown).1
 have hcm := (caps_of_row hown).2.1
 unfold CapOk maxLen at hcm
 have hlns := ln_of_row hown
 have HLn := Lib.hid hlns
 have hkn : k < n := by omega
 obtain ⟨hlg, hgw⟩ := hown.lt g rfl
 have HD0 : Hid (DelI w lo g n l (k + 1) k w) := by
  rcases hown.2 with ⟨e, _⟩ | ⟨g', cap', cur, e, hg', hc, _, _, hsz, ht⟩
  ·cases e
  ·injection e with e1 _ e3
   injection e1 with e1
   injection e1 with e1
   subst e1 e3
   have hin : ∀ t, t < n → LnIn cur (t * 3) (l.getD t LnV.zero) := fun t ht' => by
    have key : ∀ u, u < 3 → cur[t * 3 + u]? = (lnRow (l.getD t LnV.zero))[u]? := fun u hu => by
     rw [← lnCells_at l t u (by omega) hu, ← ht, List.getElem?_take_of_lt (by omega), Array.getElem?_toList]
    exact ⟨key 0 (by omega), key 1 (by omega), key 2 (by omega)⟩
   have e2 : keepS (l.take (k + 1)) = l.take k := by rw [keepS_step (by omega), if_pos f3, keepS_first (by omega) f2]
   refine ⟨Below.refl _ _, ⟨cur, hc, by omega, fun t ht' => ?_, fun t _ b => hin t b⟩, by rw [e2, List.length_take]; omega⟩
   rw [e2, List.getD_eq_getElem?_getD, List.getElem?_take_of_lt ht', ← List.getD_eq_getElem?_getD]
   exact hin t (by omega)
 have HL := Lib.hid hl
 have HY := Lib.hid hyes
 clear hown hl hlns f1 f2 f3 hyes
 go_enter Tryz.func116, Tryz.ntmps116
 go_wp2_with fail
 refine (indexFuncW w w.heap.size _ n c l HLn.out (Nat.le_refl _) hn).mono ?_
 rintro e w1 ⟨rfl, hb1⟩
 rw [HY.out]
 have HD1 := Lib.hid (HD0.out.next hb1 hlo)
 clear hb1 HD0 HY HLn
 have hk1 : ¬ ((k : Int) = -1) := by omega
 have hk2 : ((k : Int) == -1) = false := beq_eq_false_iff_ne.2 hk1
 have hwk : IntKind.i64.wrap ((k : Int) + 1) = (k : Int) + 1 := IntWalk.i64_in _ (by omega)
 go_wp2
 go_loopw [5, 6] (fun i j wr => ∃ p m : Nat, p ≤ n ∧ m < p ∧ i = .int .i64 (m : Int) ∧ j = .int .i64 (p : Int) ∧ Hid (DelI w lo g n l p m wr)) (fun _ j _ => n - (intOf j).toNat)
 case atStart => exact ⟨k + 1, k, by omega, by omega, rfl, by go_num, HD1⟩
 case round =>
  obtain ⟨p, m, hp, hm, rfl, rfl, HD⟩ := hrel
  have hwm : IntKind.i64.wrap ((m : Int) + 1) = (m : Int) + 1 := IntWalk.i64_in _ (by omega)
  have hwp : IntKind.i64.wrap ((p : Int) + 1) = (p : Int) + 1 := IntWalk.i64_in _ (by omega)
  by_cases hlt : p < n
  rotate_left
  ·obtain rfl : p = n := by omega
   obtain ⟨w2, hclr, hd2⟩ := HD.out.clear hm hlg
   have HD2 := Lib.hid hd2
   have hmi : (m : Int) ≤ (p : Int) := by omega
   have hmc : ¬ (c = m) := by omega
   have hmci : (m : Int) ≤ (c : Int) := by omega
   have hpci : (p : Int) ≤ (c : Int) := by omega
   have hcl2 := fun ty => hclr ty (c - m)
   clear hclr hd2 HD
   go_wp2
   go_ret
   have HDp := HD2.out
   have e5 : keepS (l.take p) = keepS l := by rw [List.take_of_length_le (by have := HL.out; omega)]
   have hlen := HDp.len
   rw [e5] at hlen
   obtain ⟨cs, hg, q1, q2, _⟩ := HDp.row
   refine ⟨some ⟨g, 0, none⟩, c, by rw [hlen]; rfl, ?_, by omega, HDp.bel⟩
   rw [hlen]
   refine ⟨hlen, fun t ht => ⟨g, 0, rfl, (Array.getElem?_eq_some_iff.1 hg).1, ?_⟩⟩
   rw [e5] at q2
   exact LnIn_zero (q2 t ht) hg
  have hpi : (p : Int) < (n : Int) := by omega
  have hmi : (m : Int) < (n : Int) := by omega
  have HNx : Hid ((l.getD p LnV.zero).saved = true → DelI w lo g n l (p + 1) m wr) := fun h => HD.out.skip (by have := HL.out; omega) h
  obtain ⟨cs, hg, q1, q2, q3⟩ := HD.out.row
  have hgr : g < wr.heap.size := (Array.getElem?_eq_some_iff.1 hg).1
  obtain ⟨c0, c1, c2⟩ := (q3 p (Nat.le_refl _) hlt).at hg
  have HX : ∃ x, x = l.getD p LnV.zero := ⟨_, rfl⟩
  obtain ⟨x, hx⟩ := HX
  rw [← hx] at c0 c1 c2 HNx
  have HXE := Lib.hid hx
  clear hx hg q1 q2 q3
  go_upto_region 8 with fail
  have hbb := (Below.refl wr.heap.size wr).alloc (Nat.le_refl _) (.cells #[.string x.item, .int .i64 x.qty, .bool x.saved] 172)
  have HD2 := Lib.hid (HD.out.next hbb hlo)
  have HN2 := Lib.hid (heap_alloc_new wr (.cells #[.string x.item, .int .i64 x.qty, .bool x.saved] 172))
  have hs2 := hbb.size
  clear hbb c0 c1 c2 HNx HD
  generalize wr.alloc (.cells #[.string x.item, .int .i64 x.qty, .bool x.saved] 172) = w2 at HD2 HN2 hs2 ⊢
  have hx2 : wr.heap.size < w2.heap.size := (Array.getElem?_eq_some_iff.1 HN2.out).1
  generalize wr.heap.size = xb at HN2 hs2 hx2 hgr ⊢
  obtain ⟨d0, d1, d2⟩ := ln3_cells HN2.out
  go_wp2_with fail
  refine (savedFn x w2).mono ?_
  rintro e w3 ⟨rfl, hb3⟩
  have HD3 := Lib.hid (HD2.out.next hb3 hlo)
  have HN3 := Lib.hid ((hb3.block _ hx2).trans HN2.out)
  have hs3 := hb3.size
  clear hb3 d0 d1 d2 HD2 HN2
  by_cases hsv : x.saved = true
  ·have HD4 : Hid (DelI w lo g n l (p + 1) m w3) := HD3.out.skip (by have := HL.out; omega) (by rw [← HXE.out]; exact hsv)
   rw [hsv]
   clear HD3
   go_wp2
   go_roundw
   case rel => exact ⟨p + 1, m, by omega, by omega, rfl, by go_num, HD4⟩
   case measure => simp [intOf]; omega
  ·have hsf : x.saved = false := Bool.eq_false_iff.2 hsv
   have HD4 : Hid (DelI w lo g n l (p + 1) (m + 1) (set3 w3 g (m * 3) x)) := by
    have h := HD3.out.put HL.out hlt (by rw [← HXE.out]; exact hsf) hlg
    rw [← HXE.out] at h
    exact h
   obtain ⟨cs, hg, q1, q2, q3⟩ := HD3.out.row
   obtain ⟨d0, d1, d2⟩ := ln3_cells HN3.out
   have hz : ∀ u, u < 3 → ∃ v, w3.cell? ⟨g, m * 3 + u, none⟩ = some v := fun u hu => ⟨_, (cell_of_row _ _ _ _ _ _ hg).trans (Array.getElem?_eq_getElem (by omega))⟩
   obtain ⟨z0, e0⟩ := hz 0 (by omega)
   obtain ⟨z1, e1⟩ := hz 1 (by omega)
   obtain ⟨z2, e2⟩ := hz 2 (by omega)
   rw [Nat.add_zero] at e0
   have t0 : w3.frozen? ⟨g, m * 3, none⟩ = false := frozen_of_row _ _ _ _ _ hg
   have t1 : w3.frozen? ⟨g, m * 3 + 1, none⟩ = false := frozen_of_row _ _ _ _ _ hg
   have t2 : w3.frozen? ⟨g, m * 3 + 2, none⟩ = false := frozen_of_row _ _ _ _ _ hg
   rw [hsf]
   rw [hsf] at d2
   clear hz hg q1 q2 q3 HD3
   go_upto_region 10 with fail
   have e9 : ((w3.setCell ⟨g, m * 3, none⟩ (.string x.item)).setCell ⟨g, m * 3 + 1, none⟩ (.int .i64 x.qty)).setCell ⟨g, m * 3 + 2, none⟩ (.bool false) = set3 w3 g (m * 3) x := by unfold set3; rw [hsf]
   rw [e9]
   generalize set3 w3 g (m * 3) x = w4 at HD4 ⊢
   clear d0 d1 d2 e0 e1 e2 t0 t1 t2 e9
   go_wp2
   go_roundw
   case rel => exact ⟨p + 1, m + 1, by omega, by omega, by go_num, by go_num, HD4⟩
   case measure => simp [intOf]; omega
theorem deleteFuncW (w : World) (lo : Nat) (a : Option Addr) (n c : Nat) (l : List LnV) (hown : w.ownsRow lo 172 3 (.slice a n c) n (lnCells l)) (hlo : lo ≤ w.heap.size) (hn : n ≤ 1048576) :
  Calls Tryz.prog 116 #[.slice a n c, .func (.func 118) #[] #[]] w (DelP lo (keepS l) w) := by
 by_cases h : firstS l = -1
 ·exact deleteFuncNo w lo a n c l hown hlo hn h
 ·obtain ⟨k, hk⟩ : ∃ k : Nat, firstS l = (k : Int) := by
   unfold firstS at h ⊢
   split at h
   ·rename_i hlt
    exact ⟨l.findIdx (·.saved), by rw [if_pos hlt]⟩
   ·exact absurd rfl h
  have hl : l.length = n := by have := hown.1; rw [lnCells_len] at this; omega
  have hkl := (firstS_of hk).1
  rcases hown.2 with ⟨e, e2⟩ | ⟨g, cap, cur, e, _⟩
  ·omega
  ·injection e with e1 _ e3
   subst e1
   exact deleteFuncYes w lo g n c k l hown hlo hn hk
end Go.Proofs.YtjokbaaommicmaaGreatDoor
