/- Walks and mathematics that several claims share, part 34. -/
import Derived.Test.YthkagbnpcjidfaaGreatDoorGy33
import Derived.Test.YthkagbnpcjidfaaGreatDoorGy27
import Derived.Laws.CopyRow
import Derived.Lib.SliceRun
import Derived.Deep.Cut
import Derived.Lib.Hide
import Derived.Test.YthkagbnpcjidfaaGreatDoorGyA
namespace Go.Proofs.YthkagbnpcjidfaaGreatDoor
set_option maxRecDepth 100000
open Go.RowKit
set_option linter.unusedVariables false
set_option linter.unusedSimpArgs false
set_option linter.unusedVariables false
set_option linter.unusedSimpArgs false

theorem zZ {w : World} {b : Nat} {v0 v1 v2 : Value} {T : TypeId} {fr : Nat × Nat} (h : w.heap[b]? = some (.cells #[v0, v1, v2] T fr)) : w.cell? ⟨b, 0, none⟩ = some v0 ∧ w.cell? ⟨b, 1, none⟩ = some v1 ∧ w.cell? ⟨b, 2, none⟩ = some v2 :=
 ⟨aRD h, aRD h, aRD h⟩
theorem aFB (x : aT) (w : World) : Calls Tryz.prog 133 #[.agg #[.string x.item, .int .i64 x.qty, .bool x.saved]] w fun e w' => e = .returned (.bool x.saved) ∧ Below w.heap.size w w' := by
 have HB := aRA ((Below.refl w.heap.size w).alloc aRC (.cells #[.string x.item, .int .i64 x.qty, .bool x.saved] 39))
 have HN := aRA (heap_alloc_new w (.cells #[.string x.item, .int .i64 x.qty, .bool x.saved] 39))
 go_enter Tryz.func133, Tryz.ntmps133
 go_upto_region 1 with fail
 generalize w.alloc (.cells #[.string x.item, .int .i64 x.qty, .bool x.saved] 39) = w1 at HB HN ⊢
 obtain ⟨c0, c1, c2⟩ := zZ HN.out
 go_wp2
 go_ret
 exact ⟨rfl, HB.out⟩
/-- The first line that is saved; -1: there is none. -/
def mG (l : List aT) : Int := if l.findIdx (·.saved) < l.length then ((l.findIdx (·.saved) : Nat) : Int) else -1
theorem aIC {l : List aT} {k : Nat} (hk : k < l.length) (h : ∀ j, j < k → (l.getD j aT.zero).saved = false) (hs : (l.getD k aT.zero).saved = true) : mG l = (k : Int) := by
 have e : l.findIdx (·.saved) = k := by
  rw [List.findIdx_eq hk]; refine ⟨?_, fun j hj => ?_⟩
  ·rw [List.getD_eq_getElem?_getD, List.getElem?_eq_getElem hk] at hs
   exact hs
  ·have := h j hj
   rw [List.getD_eq_getElem?_getD, List.getElem?_eq_getElem (by omega)] at this
   exact this
 unfold mG
 rw [e, if_pos hk]
theorem aFr {l : List aT} (h : ∀ j, j < l.length → (l.getD j aT.zero).saved = false) : mG l = -1 := by
 unfold mG
 rw [if_neg]
 intro aK
 have hp := List.findIdx_getElem (w := aK)
 have := h _ aK
 rw [List.getD_eq_getElem?_getD, List.getElem?_eq_getElem aK] at this
 have h2 : (l[l.findIdx (·.saved)]).saved = false := this
 have h3 : (l[l.findIdx (·.saved)]).saved = true := hp
 rw [h2] at h3
 cases h3
set_option maxHeartbeats 20000000 in
theorem aBF (w : World) (B : Nat) (a : Option Addr) (n c : Nat) (l : List aT) (h : E0 w B a n l) (hB : B ≤ w.heap.size) (hn : n ≤ 1048576) :
  Calls Tryz.prog 152 #[.slice a n c, .func (.func 133) #[] #[]] w fun e w' => e = .returned (.int .i64 (mG l)) ∧ Below w.heap.size w w' := by
 have HO := aRA h
 have HL := aRA h.1
 clear h
 go_enter Tryz.func152, Tryz.ntmps152
 go_wp2
 go_loopw [8] (fun i wr => ∃ k : Nat, k ≤ n ∧ i = .int .i64 (k : Int) ∧ Hid (∀ j, j < k → (l.getD j aT.zero).saved = false) ∧ Hid (Below w.heap.size w wr)) (fun i _ => n - (intOf i).toNat)
 case atStart => exact ⟨0, Nat.zero_le _, rfl, fun j hj => absurd hj (by omega), Below.refl _ _⟩
 case round =>
  obtain ⟨k, hk, rfl, HF, HB⟩ := hrel
  by_cases aK : k < n
  rotate_left
  ·obtain rfl : k = n := by omega
   have HR : Hid (mG l = -1) := aFr (fun j hj => HF.out j (by have := HL.out; omega))
   go_wp2
   go_ret
   exact ⟨by rw [HR.out]; rfl, HB.out⟩
  obtain ⟨b, off, rfl, hb, hc⟩ := HO.out.2 k aK; have hki : (k : Int) < (n : Int) := by omega
  obtain ⟨c0, c1, c2⟩ := hc.kept (HB.out.block b (by omega))
  have c8 : Hid ((l.getD k aT.zero).saved = false → ∀ j, j < k + 1 → (l.getD j aT.zero).saved = false) := fun h0 j hj => by
   rcases Nat.lt_or_ge j k with q | q
   ·exact HF.out j q
   ·obtain rfl : j = k := by omega
    exact h0
  have aKG : Hid ((l.getD k aT.zero).saved = true → mG l = (k : Int)) := fun h1 => aIC (by have := HL.out; omega) HF.out h1
  clear hc HF; generalize l.getD k aT.zero = x at c0 c1 c2 c8 aKG
  go_wp2_with fail
  refine (aFB x wr).mono ?_
  rintro e w2 ⟨rfl, aN⟩; have bK := aRA (HB.out.trans (aN.mono HB.out.size)); clear aN c0 c1 c2 HB; obtain ⟨xi, xq, xs⟩ := x
  dsimp only at c8 aKG ⊢
  cases xs
  ·go_wp2
   go_roundw
   case rel => exact ⟨k + 1, by omega, by go_num, c8.out rfl, bK⟩
   case measure => simp [intOf]; omega
  ·have HR := aRA (aKG.out rfl)
   go_wp2
   go_ret
   exact ⟨by rw [HR.out]; rfl, bK.out⟩
set_option linter.unusedVariables false
set_option linter.unusedSimpArgs false

def iD (l : List aT) : List aT := l.filter fun x => !x.saved
theorem U6 {l : List aT} {j : Nat} (hj : j < l.length) : iD (l.take (j + 1)) = if (l.getD j aT.zero).saved = true then iD (l.take j) else iD (l.take j) ++ [l.getD j aT.zero] := by
 have e : l.take (j + 1) = l.take j ++ [l.getD j aT.zero] := by
  rw [List.take_succ_eq_append_getElem hj, List.getD_eq_getElem?_getD, List.getElem?_eq_getElem hj]
  rfl
 rw [e]
 unfold iD
 rw [List.filter_append]
 by_cases h : (l.getD j aT.zero).saved = true
 ·rw [if_pos h, List.filter_cons, if_neg (by rw [h]; decide)]
  simp
 ·have h' : (l.getD j aT.zero).saved = false := Bool.eq_false_iff.2 h
  rw [if_neg h, List.filter_cons, if_pos (by rw [h']; rfl)]
  rfl
theorem aIf (l : List aT) (j : Nat) : (iD (l.take j)).length ≤ j := by
 have h1 : (iD (l.take j)).length ≤ (l.take j).length := List.length_filter_le _ _
 rw [List.length_take] at h1
 omega
theorem aFm {l : List aT} {k : Nat} (hk : k ≤ l.length) (h : ∀ j, j < k → (l.getD j aT.zero).saved = false) : iD (l.take k) = l.take k := by
 unfold iD
 rw [List.filter_eq_self]
 intro x hx
 obtain ⟨j, hj, rfl⟩ := List.getElem_of_mem hx
 rw [List.length_take] at hj
 have := h j (by omega)
 rw [List.getD_eq_getElem?_getD, List.getElem?_eq_getElem (by omega)] at this
 rw [List.getElem_take]
 simpa using this
theorem aDg {l : List aT} {k : Nat} (h : mG l = (k : Int)) : k < l.length ∧ (∀ j, j < k → (l.getD j aT.zero).saved = false) ∧ (l.getD k aT.zero).saved = true := by
 unfold mG at h
 split at h
 ·rename_i aK
  have e : l.findIdx (·.saved) = k := by omega
  subst e; refine ⟨aK, fun j hj => ?_, ?_⟩
  ·have := List.not_of_lt_findIdx hj
   rw [List.getD_eq_getElem?_getD, List.getElem?_eq_getElem (by omega)]
   simpa using this
  ·have := List.findIdx_getElem (w := aK)
   rw [List.getD_eq_getElem?_getD, List.getElem?_eq_getElem aK]; exact this
 ·omega
theorem aIB {l : List aT} (h : mG l = -1) : iD l = l := by
 unfold mG at h
 split at h
 ·omega
 ·rename_i hn
  unfold iD; rw [List.filter_eq_self]
  intro x hx
  cases hs : x.saved
  ·rfl
  ·exact absurd (List.findIdx_lt_length_of_exists ⟨x, hx, hs⟩) hn
theorem aFp {A : List aT} {x : aT} {t : Nat} (h : t < A.length) : (A ++ [x]).getD t aT.zero = A.getD t aT.zero := by
 rw [List.getD_eq_getElem?_getD, List.getElem?_append_left h, ← List.getD_eq_getElem?_getD]
theorem aFq {A : List aT} {x : aT} {t : Nat} (h : A.length = t) : (A ++ [x]).getD t aT.zero = x := by
 rw [List.getD_eq_getElem?_getD, List.getElem?_append_right (by omega), h, Nat.sub_self]
 rfl
/-- How far the walk has come: j lines are looked at, m of them are kept. -/
structure tB (w : World) (lo g n : Nat) (l : List aT) (j m : Nat) (wr : World) : Prop where
 bel : Below lo w wr
 row : ∃ cs : Array Value, wr.heap[g]? = some (.cells cs 39 (0, 0)) ∧ n * 3 ≤ cs.size ∧ (∀ t, t < m → xD cs (t * 3) ((iD (l.take j)).getD t aT.zero)) ∧ ∀ t, j ≤ t → t < n → xD cs (t * 3) (l.getD t aT.zero)
 len : (iD (l.take j)).length = m
theorem tB.next {w : World} {lo g n : Nat} {l : List aT} {j m : Nat} {wr w2 : World} (h : tB w lo g n l j m wr) (hb : Below wr.heap.size wr w2) (jV : lo ≤ w.heap.size) : tB w lo g n l j m w2 := by
 obtain ⟨cs, hg, r⟩ := h.row
 exact ⟨h.bel.trans (hb.mono (Nat.le_trans jV h.bel.size)), ⟨cs, (hb.block _ (aRB hg).1).trans hg, r⟩, h.len⟩
theorem tB.skip {w : World} {lo g n : Nat} {l : List aT} {j m : Nat} {wr : World} (h : tB w lo g n l j m wr) (hj : j < l.length) (hs : (l.getD j aT.zero).saved = true) : tB w lo g n l (j + 1) m wr := by
 obtain ⟨cs, hg, h1, h2, h3⟩ := h.row
 have e : iD (l.take (j + 1)) = iD (l.take j) := by rw [U6 hj, if_pos hs]
 exact ⟨h.bel, ⟨cs, hg, h1, by rw [e]; exact h2, fun t a b => h3 t (by omega) b⟩, by rw [e]; exact h.len⟩
def aCg (w : World) (g o : Nat) (x : aT) : World := ((w.setCell ⟨g, o, none⟩ (.string x.item)).setCell ⟨g, o + 1, none⟩ (.int .i64 x.qty)).setCell ⟨g, o + 2, none⟩ (.bool x.saved)
theorem aI0 {w : World} {g o : Nat} {x : aT} {cs : Array Value} {T : TypeId} (h : w.heap[g]? = some (.cells cs T (0, 0))) : (aCg w g o x).heap[g]? = some (.cells (((cs.setIfInBounds o (.string x.item)).setIfInBounds (o + 1) (.int .i64 x.qty)).setIfInBounds (o + 2) (.bool x.saved)) T (0, 0)) :=
 heap_setCell_same _ _ _ _ _ _ (heap_setCell_same _ _ _ _ _ _ (heap_setCell_same _ _ _ _ _ _ h))
theorem aKi {cs : Array Value} {o : Nat} {x : aT} (h : o + 3 ≤ cs.size) : xD (((cs.setIfInBounds o (.string x.item)).setIfInBounds (o + 1) (.int .i64 x.qty)).setIfInBounds (o + 2) (.bool x.saved)) o x := by
 refine ⟨?_, ?_, ?_⟩
 ·rw [Array.getElem?_setIfInBounds_ne (by omega), Array.getElem?_setIfInBounds_ne (by omega), Array.getElem?_setIfInBounds_self_of_lt (by omega)]
 ·rw [Array.getElem?_setIfInBounds_ne (by omega), Array.getElem?_setIfInBounds_self_of_lt (by simp; omega)]
 ·rw [Array.getElem?_setIfInBounds_self_of_lt (by simp; omega)]
theorem aEQ {cs : Array Value} {o p : Nat} {x y : aT} (h : xD cs p y) (hp : p + 3 ≤ o ∨ o + 3 ≤ p) : xD (((cs.setIfInBounds o (.string x.item)).setIfInBounds (o + 1) (.int .i64 x.qty)).setIfInBounds (o + 2) (.bool x.saved)) p y := by
 obtain ⟨h0, h1, h2⟩ := h
 refine ⟨?_, ?_, ?_⟩ <;> rw [Array.getElem?_setIfInBounds_ne (by omega), Array.getElem?_setIfInBounds_ne (by omega), Array.getElem?_setIfInBounds_ne (by omega)] <;> assumption
theorem tB.put {w : World} {lo g n : Nat} {l : List aT} {j m : Nat} {wr : World} (h : tB w lo g n l j m wr) (hl : l.length = n) (hj : j < n) (hs : (l.getD j aT.zero).saved = false) (jV : lo ≤ g) : tB w lo g n l (j + 1) (m + 1) (aCg wr g (m * 3) (l.getD j aT.zero)) := by
 obtain ⟨cs, hg, h1, h2, h3⟩ := h.row
 have hm : m ≤ j := by rw [← h.len]; exact aIf l j
 have e : iD (l.take (j + 1)) = iD (l.take j) ++ [l.getD j aT.zero] := by rw [U6 (by omega), if_neg (by rw [hs]; decide)]
 refine ⟨((h.bel.setCell (p := ⟨g, m * 3, none⟩) jV _).setCell (p := ⟨g, m * 3 + 1, none⟩) jV _).setCell (p := ⟨g, m * 3 + 2, none⟩) jV _, ⟨_, aI0 hg, by simpa using h1, fun t ht => ?_, fun t a b => aEQ (h3 t (by omega) b) (by omega)⟩, by rw [e, List.length_append, h.len]; rfl⟩
 rw [e]
 rcases Nat.lt_or_ge t m with q | q
 ·rw [aFp (by rw [h.len]; exact q)]
  exact aEQ (h2 t q) (by omega)
 ·obtain rfl : t = m := by omega
  rw [aFq h.len]; exact aKi (by omega)
theorem aMY (w : World) : (zeroValue 39).run Tryz.prog w = .ok (.agg #[.string ⟨#[]⟩, .int .i64 0, .bool false]) w := by kernel_rfl
theorem aF5 : ∀ (n : Nat), ∀ v ∈ (Builtin.zeroCells (Value.agg #[.string ⟨#[]⟩, .int .i64 0, .bool false]).cells n).toList, v.oneCell' = true := by
 intro n v hv
 rw [Array.mem_toList_iff] at hv
 unfold Builtin.zeroCells at hv
 obtain ⟨i, hi, rfl⟩ := Array.mem_map.1 hv
 show ((#[Value.string ⟨#[]⟩, .int .i64 0, .bool false] : Array Value)[i % 3]!).oneCell' = true
 have : i % 3 < 3 := Nat.mod_lt _ (by omega)
 match i % 3, this with
 | 0, _ => rfl
 | 1, _ => rfl
 | 2, _ => rfl
/-- What lies behind the kept ones is cleared. -/
theorem tB.clear {w : World} {lo g n : Nat} {l : List aT} {m : Nat} {wr : World} (h : tB w lo g n l n m wr) (hm : m < n) (jV : lo ≤ g) : ∃ w2, (∀ ty c, (Builtin.clear_ #[42] ty #[.slice (some ⟨g, m * 3, none⟩) (n - m) c]).run Tryz.prog wr = .ok (.tuple #[]) w2) ∧ tB w lo g n l n m w2 := by
 obtain ⟨cs, hg, h1, h2, h3⟩ := h.row
 obtain ⟨Z, hZ⟩ : ∃ Z, Z = (Builtin.zeroCells (Value.agg #[.string ⟨#[]⟩, .int .i64 0, .bool false]).cells (n - m)).toList := ⟨_, rfl⟩
 have R8 : Z.length = (n - m) * 3 := by
  rw [hZ, Array.length_toList, size_zeroCells]
  rfl
 have gC := run_storeCells_at (P := Tryz.prog) g (m * 3) 39 Z 0 cs wr hg (by rw [R8]; omega) (by rw [hZ]; exact aF5 _)
 refine ⟨wr.setRow g (cs.toList.take (m * 3 + 0) ++ Z ++ cs.toList.drop (m * 3 + 0 + Z.length)).toArray, fun ty c => ?_, ?_⟩
 ·obtain ⟨k, hk⟩ : ∃ k, n - m = k + 1 := ⟨n - m - 1, by omega⟩
  rw [hk] at hZ ⊢; have jU := hZ.symm; simp [Builtin.clear_, run_underlying Tryz.underlying42, aMY, jU, gC]
 ·have aPL : ∀ (cs' : Array Value) k, k ≠ g → (wr.setRow g cs').heap[k]? = wr.heap[k]? := fun cs' k hk => setRow_other wr g k _ hk
  refine ⟨h.bel.trans ⟨rfl, rfl, rfl, Nat.le_of_eq (by show wr.heap.size = (wr.heap.modify g _).size; rw [Array.size_modify]), fun k hk => aPL _ k (by omega)⟩, ⟨_, setRow_heap wr g cs _ _ _ hg, ?_, fun t ht => ?_, fun t a b => absurd b (by omega)⟩, h.len⟩
  ·simp only [List.size_toArray, List.length_append, List.length_take, List.length_drop, R8, Array.length_toList]
   omega
  ·obtain ⟨a0, a1, a2⟩ := h2 t ht
   have key : ∀ u, u < 3 → (((cs.toList.take (m * 3 + 0)) ++ Z ++ cs.toList.drop (m * 3 + 0 + (Z).length)).toArray)[t * 3 + u]? = cs[t * 3 + u]? := fun u hu => by
    rw [List.getElem?_toArray, List.append_assoc, List.getElem?_append_left (by rw [List.length_take, Array.length_toList]; omega), List.getElem?_take_of_lt (by omega), Array.getElem?_toList]
   exact ⟨(key 0 (by omega)).trans a0, (key 1 (by omega)).trans a1, (key 2 (by omega)).trans a2⟩
set_option linter.unusedVariables false
set_option linter.unusedSimpArgs false

/-- What is handed back: the lines that stay, in the same row. -/
def aKK (lo : Nat) (F : List aT) (w : World) (e : Ending) (w' : World) : Prop := ∃ a c, e = .returned (.slice a F.length c) ∧ E0 w' w'.heap.size a F.length F ∧ F.length ≤ c ∧ Below lo w w'
theorem aIU {cs : Array Value} {p : Nat} {x : aT} (h : xD cs p x) {w : World} {g : Nat} {T : TypeId} (hg : w.heap[g]? = some (.cells cs T (0, 0))) : aCF w g (0 + p) x := by
 rw [Nat.zero_add]
 exact h.at hg
theorem aC5 {w : World} {lo : Nat} {a : Option Addr} {n c : Nat} {l : List aT} (h : w.ownsRow lo 39 3 (.slice a n c) n (fL l)) : E0 w w.heap.size a n l := by
 obtain ⟨a', c', e, aY⟩ := rT h aRC
 injection e with e1 _ _
 subst e1
 exact aY.rows
theorem aEF (w : World) (lo : Nat) (a : Option Addr) (n c : Nat) (l : List aT) (aY : w.ownsRow lo 39 3 (.slice a n c) n (fL l)) (jV : lo ≤ w.heap.size) (hn : n ≤ 1048576) (hM : mG l = -1) :
  Calls Tryz.prog 132 #[.slice a n c, .func (.func 133) #[] #[]] w (aKK lo (iD l) w) := by
 have hl : l.length = n := by have := aY.1; rw [uA] at this; omega
 have HK := aRA (aIB hM)
 have aEy := aC5 aY
 have eL := aRA aEy
 have iR := aRA (hC aY).1
 have HL := aRA hl
 clear aY hl aEy
 go_enter Tryz.func132, Tryz.ntmps132
 go_wp2_with fail
 refine (aBF w w.heap.size a n c l eL.out aRC hn).mono ?_
 rintro e w1 ⟨rfl, aI⟩
 rw [hM]
 have HB := aRA aI
 clear aI hM
 go_wp2
 go_ret
 refine ⟨a, c, by rw [HK.out, HL.out]; rfl, ?_, by rw [HK.out, HL.out]; exact iR.out, HB.out.mono jV⟩
 rw [HK.out, HL.out]
 exact (eL.out.below HB.out aRC).more HB.out.size
set_option maxHeartbeats 40000000 in
theorem aDt (w : World) (lo g n c k : Nat) (l : List aT) (aY : w.ownsRow lo 39 3 (.slice (some ⟨g, 0, none⟩) n c) n (fL l)) (jV : lo ≤ w.heap.size) (hn : n ≤ 1048576) (aJH : mG l = (k : Int)) :
  Calls Tryz.prog 132 #[.slice (some ⟨g, 0, none⟩) n c, .func (.func 133) #[] #[]] w (aKK lo (iD l) w) := by
 have hl : l.length = n := by have := aY.1; rw [uA] at this; omega
 obtain ⟨f1, f2, f3⟩ := aDg aJH
 have lJ := (hC aY).1
 have S3 := (hC aY).2.1
 unfold zR maxLen at S3
 have aEy := aC5 aY
 have eL := aRA aEy
 have hkn : k < n := by omega
 obtain ⟨hlg, lH⟩ := aY.lt g rfl
 have HD0 : Hid (tB w lo g n l (k + 1) k w) := by
  rcases aY.2 with ⟨e, _⟩ | ⟨g', gE, aX, e, hg', hc, _, _, dK, ht⟩
  ·cases e
  ·injection e with e1 _ e3
   injection e1 with e1; injection e1 with e1; subst e1 e3; have hin : ∀ t, t < n → xD aX (t * 3) (l.getD t aT.zero) := fun t ht' => by
    have key : ∀ u, u < 3 → aX[t * 3 + u]? = (kY (l.getD t aT.zero))[u]? := fun u hu => by
     rw [← U2 l t u (by omega) hu, ← ht, List.getElem?_take_of_lt (by omega), Array.getElem?_toList]
    exact ⟨key 0 (by omega), key 1 (by omega), key 2 (by omega)⟩
   have e2 : iD (l.take (k + 1)) = l.take k := by rw [U6 (by omega), if_pos f3, aFm (by omega) f2]
   refine ⟨Below.refl _ _, ⟨aX, hc, by omega, fun t ht' => ?_, fun t _ b => hin t b⟩, by rw [e2, List.length_take]; omega⟩
   rw [e2, List.getD_eq_getElem?_getD, List.getElem?_take_of_lt ht', ← List.getD_eq_getElem?_getD]; exact hin t (by omega)
 have HL := aRA hl
 have HY := aRA aJH
 clear aY hl aEy f1 f2 f3 aJH
 go_enter Tryz.func132, Tryz.ntmps132
 go_wp2_with fail
 refine (aBF w w.heap.size _ n c l eL.out aRC hn).mono ?_
 rintro e w1 ⟨rfl, aI⟩
 rw [HY.out]
 have sY := aRA (HD0.out.next aI jV)
 clear aI HD0 HY eL
 have Y4 : ¬ ((k : Int) = -1) := by omega
 have S1 : ((k : Int) == -1) = false := beq_eq_false_iff_ne.2 Y4
 have hwk : IntKind.i64.wrap ((k : Int) + 1) = (k : Int) + 1 := IntWalk.i64_in _ (by omega)
 go_wp2
 go_loopw [5, 6] (fun i j wr => ∃ p m : Nat, p ≤ n ∧ m < p ∧ i = .int .i64 (m : Int) ∧ j = .int .i64 (p : Int) ∧ Hid (tB w lo g n l p m wr)) (fun _ j _ => n - (intOf j).toNat)
 case atStart => exact ⟨k + 1, k, by omega, by omega, rfl, by go_num, sY⟩
 case round =>
  obtain ⟨p, m, hp, hm, rfl, rfl, HD⟩ := hrel; have hwm : IntKind.i64.wrap ((m : Int) + 1) = (m : Int) + 1 := IntWalk.i64_in _ (by omega)
  have hwp : IntKind.i64.wrap ((p : Int) + 1) = (p : Int) + 1 := IntWalk.i64_in _ (by omega)
  by_cases aK : p < n
  rotate_left
  ·obtain rfl : p = n := by omega
   obtain ⟨w2, aNr, hd2⟩ := HD.out.clear hm hlg; have M2 := aRA hd2; have hmi : (m : Int) ≤ (p : Int) := by omega
   have hmc : ¬ (c = m) := by omega
   have aQ2 : (m : Int) ≤ (c : Int) := by omega
   have aQY : (p : Int) ≤ (c : Int) := by omega
   have aRk := fun ty => aNr ty (c - m)
   clear aNr hd2 HD; go_wp2
   go_ret
   have HDp := M2.out; have e5 : iD (l.take p) = iD l := by rw [List.take_of_length_le (by have := HL.out; omega)]
   have pE := HDp.len; rw [e5] at pE; obtain ⟨cs, hg, q1, q2, _⟩ := HDp.row; refine ⟨some ⟨g, 0, none⟩, c, by rw [pE]; rfl, ?_, by omega, HDp.bel⟩
   rw [pE]; refine ⟨pE, fun t ht => ⟨g, 0, rfl, (aRB hg).1, ?_⟩⟩
   rw [e5] at q2; exact aIU (q2 t ht) hg
  have hpi : (p : Int) < (n : Int) := by omega
  have hmi : (m : Int) < (n : Int) := by omega
  have c8 : Hid ((l.getD p aT.zero).saved = true → tB w lo g n l (p + 1) m wr) := fun h => HD.out.skip (by have := HL.out; omega) h
  obtain ⟨cs, hg, q1, q2, q3⟩ := HD.out.row; have jW : g < wr.heap.size := (aRB hg).1; obtain ⟨c0, c1, c2⟩ := (q3 p aRC aK).at hg; have HX : ∃ x, x = l.getD p aT.zero := ⟨_, rfl⟩; obtain ⟨x, hx⟩ := HX; rw [← hx] at c0 c1 c2 c8; have HXE := aRA hx; clear hx hg q1 q2 q3
  go_upto_region 8 with fail
  have bD := (Below.refl wr.heap.size wr).alloc aRC (.cells #[.string x.item, .int .i64 x.qty, .bool x.saved] 39); have M2 := aRA (HD.out.next bD jV); have oC := aRA (heap_alloc_new wr (.cells #[.string x.item, .int .i64 x.qty, .bool x.saved] 39)); have eV := bD.size; clear bD c0 c1 c2 c8 HD; generalize wr.alloc (.cells #[.string x.item, .int .i64 x.qty, .bool x.saved] 39) = w2 at M2 oC eV ⊢; have q9 : wr.heap.size < w2.heap.size := (aRB oC.out).1; generalize wr.heap.size = xb at oC eV q9 jW ⊢; obtain ⟨d0, d1, d2⟩ := zZ oC.out
  go_wp2_with fail
  refine (aFB x w2).mono ?_
  rintro e w3 ⟨rfl, bB⟩; have HD3 := aRA (M2.out.next bB jV); have qN := aRA ((bB.block _ q9).trans oC.out); have iG := bB.size; clear bB d0 d1 d2 M2 oC
  by_cases hsv : x.saved = true
  ·have uN : Hid (tB w lo g n l (p + 1) m w3) := HD3.out.skip (by have := HL.out; omega) (by rw [← HXE.out]; exact hsv)
   rw [hsv]; clear HD3; go_wp2
   go_roundw
   case rel => exact ⟨p + 1, m, by omega, by omega, rfl, by go_num, uN⟩
   case measure => simp [intOf]; omega
  ·have wQ : x.saved = false := Bool.eq_false_iff.2 hsv
   have uN : Hid (tB w lo g n l (p + 1) (m + 1) (aCg w3 g (m * 3) x)) := by
    have h := HD3.out.put HL.out aK (by rw [← HXE.out]; exact wQ) hlg
    rw [← HXE.out] at h; exact h
   obtain ⟨cs, hg, q1, q2, q3⟩ := HD3.out.row; obtain ⟨d0, d1, d2⟩ := zZ qN.out; have hz : ∀ u, u < 3 → ∃ v, w3.cell? ⟨g, m * 3 + u, none⟩ = some v := fun u hu => ⟨_, (aRD hg).trans (Array.getElem?_eq_getElem (by omega))⟩
   obtain ⟨z0, e0⟩ := hz 0 (by omega)
   obtain ⟨z1, e1⟩ := hz 1 (by omega)
   obtain ⟨z2, e2⟩ := hz 2 (by omega)
   rw [Nat.add_zero] at e0; have t0 : w3.frozen? ⟨g, m * 3, none⟩ = false := aRE hg; have t1 : w3.frozen? ⟨g, m * 3 + 1, none⟩ = false := aRE hg; have t2 : w3.frozen? ⟨g, m * 3 + 2, none⟩ = false := aRE hg; rw [wQ]; rw [wQ] at d2; clear hz hg q1 q2 q3 HD3
   go_upto_region 10 with fail
   have e9 : ((w3.setCell ⟨g, m * 3, none⟩ (.string x.item)).setCell ⟨g, m * 3 + 1, none⟩ (.int .i64 x.qty)).setCell ⟨g, m * 3 + 2, none⟩ (.bool false) = aCg w3 g (m * 3) x := by unfold aCg; rw [wQ]
   rw [e9]; generalize aCg w3 g (m * 3) x = w4 at uN ⊢; clear d0 d1 d2 e0 e1 e2 t0 t1 t2 e9; go_wp2
   go_roundw
   case rel => exact ⟨p + 1, m + 1, by omega, by omega, by go_num, by go_num, uN⟩
   case measure => simp [intOf]; omega
theorem aFs (w : World) (lo : Nat) (a : Option Addr) (n c : Nat) (l : List aT) (aY : w.ownsRow lo 39 3 (.slice a n c) n (fL l)) (jV : lo ≤ w.heap.size) (hn : n ≤ 1048576) :
  Calls Tryz.prog 132 #[.slice a n c, .func (.func 133) #[] #[]] w (aKK lo (iD l) w) := by
 by_cases h : mG l = -1
 ·exact aEF w lo a n c l aY jV hn h
 ·obtain ⟨k, hk⟩ : ∃ k : Nat, mG l = (k : Int) := by
   unfold mG at h ⊢
   split at h
   ·rename_i aK
    exact ⟨l.findIdx (·.saved), by rw [if_pos aK]⟩
   ·exact absurd rfl h
  have hl : l.length = n := by have := aY.1; rw [uA] at this; omega
  have hkl := (aDg hk).1; rcases aY.2 with ⟨e, e2⟩ | ⟨g, cap, aX, e, _⟩
  ·omega
  ·injection e with e1 _ e3
   subst e1; exact aDt w lo g n c k l aY jV hn hk
end Go.Proofs.YthkagbnpcjidfaaGreatDoor
