/- Walks and mathematics that several claims share, part 39. -/
import Derived.Test.YthkagbnpcjidfaaGreatDoorGu38
import Derived.Test.YthkagbnpcjidfaaGreatDoorGu32
import Derived.Laws.CopyRow
import Derived.Lib.SliceRun
import Derived.Deep.Cut
import Derived.Lib.Hide
namespace Go.Proofs.YthkagbnpcjidfaaGreatDoor
set_option maxRecDepth 100000
open Go.RowKit
set_option linter.unusedVariables false
set_option linter.unusedSimpArgs false
theorem vK {w : World} {b : Nat} {v0 v1 v2 : Value} {T : TypeId} {fr : Nat × Nat} (h : w.heap[b]? = some (.cells #[v0, v1, v2] T fr)) : w.cell? ⟨b, 0, none⟩ = some v0 ∧ w.cell? ⟨b, 1, none⟩ = some v1 ∧ w.cell? ⟨b, 2, none⟩ = some v2 :=
 ⟨aPr h, aPr h, aPr h⟩
theorem aEt (x : aS) (w : World) : Calls Tryz.prog 133 #[.agg #[.string x.item, .int .i64 x.qty, .bool x.saved]] w fun e w' => e = .returned (.bool x.saved) ∧ Below w.heap.size w w' := by
 have HB := aPo ((Below.refl w.heap.size w).alloc aPq (.cells #[.string x.item, .int .i64 x.qty, .bool x.saved] 39))
 have HN := aPo (heap_alloc_new w (.cells #[.string x.item, .int .i64 x.qty, .bool x.saved] 39))
 go_enter Tryz.func133, Tryz.ntmps133
 go_upto_region 1 with fail
 generalize w.alloc (.cells #[.string x.item, .int .i64 x.qty, .bool x.saved] 39) = w1 at HB HN ⊢
 obtain ⟨c0, c1, c2⟩ := vK HN.out
 go_wp2
 go_ret
 exact ⟨rfl, HB.out⟩
def kG (l : List aS) : Int := if l.findIdx (·.saved) < l.length then ((l.findIdx (·.saved) : Nat) : Int) else -1
theorem aHb {l : List aS} {k : Nat} (hk : k < l.length) (h : ∀ j, j < k → (l.getD j aS.zero).saved = false) (hs : (l.getD k aS.zero).saved = true) : kG l = (k : Int) := by
 have e : l.findIdx (·.saved) = k := by
  rw [List.findIdx_eq hk]; refine ⟨?_, fun j hj => ?_⟩
  ·rw [List.getD_eq_getElem?_getD, List.getElem?_eq_getElem hk] at hs
   exact hs
  ·have := h j hj
   rw [List.getD_eq_getElem?_getD, List.getElem?_eq_getElem (by omega)] at this
   exact this
 unfold kG
 rw [e, if_pos hk]
theorem aEj {l : List aS} (h : ∀ j, j < l.length → (l.getD j aS.zero).saved = false) : kG l = -1 := by
 unfold kG
 rw [if_neg]
 intro aJ
 have hp := List.findIdx_getElem (w := aJ)
 have := h _ aJ
 rw [List.getD_eq_getElem?_getD, List.getElem?_eq_getElem aJ] at this
 have h2 : (l[l.findIdx (·.saved)]).saved = false := this
 have h3 : (l[l.findIdx (·.saved)]).saved = true := hp
 rw [h2] at h3
 cases h3
set_option maxHeartbeats 20000000 in
theorem aAq (w : World) (B : Nat) (a : Option Addr) (n c : Nat) (l : List aS) (h : zD w B a n l) (hB : B ≤ w.heap.size) (hn : n ≤ 1048576) :
  Calls Tryz.prog 152 #[.slice a n c, .func (.func 133) #[] #[]] w fun e w' => e = .returned (.int .i64 (kG l)) ∧ Below w.heap.size w w' := by
 have HO := aPo h
 have HL := aPo h.1
 clear h
 go_enter Tryz.func152, Tryz.ntmps152
 go_wp2
 go_loopw [8] (fun i wr => ∃ k : Nat, k ≤ n ∧ i = .int .i64 (k : Int) ∧ Hid (∀ j, j < k → (l.getD j aS.zero).saved = false) ∧ Hid (Below w.heap.size w wr)) (fun i _ => n - (intOf i).toNat)
 case atStart => exact ⟨0, Nat.zero_le _, rfl, fun j hj => absurd hj (by omega), Below.refl _ _⟩
 case round =>
  obtain ⟨k, hk, rfl, HF, HB⟩ := hrel
  by_cases aJ : k < n
  rotate_left
  ·obtain rfl : k = n := by omega
   have HR : Hid (kG l = -1) := aEj (fun j hj => HF.out j (by have := HL.out; omega))
   go_wp2
   go_ret
   exact ⟨by rw [HR.out]; rfl, HB.out⟩
  obtain ⟨b, off, rfl, hb, hc⟩ := HO.out.2 k aJ; have hki : (k : Int) < (n : Int) := by omega
  obtain ⟨c0, c1, c2⟩ := hc.kept (HB.out.block b (by omega))
  have j1 : Hid ((l.getD k aS.zero).saved = false → ∀ j, j < k + 1 → (l.getD j aS.zero).saved = false) := fun h0 j hj => by
   rcases Nat.lt_or_ge j k with q | q
   ·exact HF.out j q
   ·obtain rfl : j = k := by omega
    exact h0
  have aJa : Hid ((l.getD k aS.zero).saved = true → kG l = (k : Int)) := fun h1 => aHb (by have := HL.out; omega) HF.out h1
  clear hc HF; generalize l.getD k aS.zero = x at c0 c1 c2 j1 aJa
  go_wp2_with fail
  refine (aEt x wr).mono ?_
  rintro e w2 ⟨rfl, aM⟩; have bT := aPo (HB.out.trans (aM.mono HB.out.size)); clear aM c0 c1 c2 HB; obtain ⟨xi, xq, xs⟩ := x
  dsimp only at j1 aJa ⊢
  cases xs
  ·go_wp2
   go_roundw
   case rel => exact ⟨k + 1, by omega, by go_num, j1.out rfl, bT⟩
   case measure => simp [intOf]; omega
  ·have HR := aPo (aJa.out rfl)
   go_wp2
   go_ret
   exact ⟨by rw [HR.out]; rfl, bT.out⟩
def gD (l : List aS) : List aS := l.filter fun x => !x.saved
theorem J3 {l : List aS} {j : Nat} (hj : j < l.length) : gD (l.take (j + 1)) = if (l.getD j aS.zero).saved = true then gD (l.take j) else gD (l.take j) ++ [l.getD j aS.zero] := by
 have e : l.take (j + 1) = l.take j ++ [l.getD j aS.zero] := by
  rw [List.take_succ_eq_append_getElem hj, List.getD_eq_getElem?_getD, List.getElem?_eq_getElem hj]
  rfl
 rw [e]
 unfold gD
 rw [List.filter_append]
 by_cases h : (l.getD j aS.zero).saved = true
 ·rw [if_pos h, List.filter_cons, if_neg (by rw [h]; decide)]
  simp
 ·have h' : (l.getD j aS.zero).saved = false := Bool.eq_false_iff.2 h
  rw [if_neg h, List.filter_cons, if_pos (by rw [h']; rfl)]
  rfl
theorem aGN (l : List aS) (j : Nat) : (gD (l.take j)).length ≤ j := by
 have h1 : (gD (l.take j)).length ≤ (l.take j).length := List.length_filter_le _ _
 rw [List.length_take] at h1
 omega
theorem aEe {l : List aS} {k : Nat} (hk : k ≤ l.length) (h : ∀ j, j < k → (l.getD j aS.zero).saved = false) : gD (l.take k) = l.take k := by
 unfold gD
 rw [List.filter_eq_self]
 intro x hx
 obtain ⟨j, hj, rfl⟩ := List.getElem_of_mem hx
 rw [List.length_take] at hj
 have := h j (by omega)
 rw [List.getD_eq_getElem?_getD, List.getElem?_eq_getElem (by omega)] at this
 rw [List.getElem_take]
 simpa using this
theorem aBU {l : List aS} {k : Nat} (h : kG l = (k : Int)) : k < l.length ∧ (∀ j, j < k → (l.getD j aS.zero).saved = false) ∧ (l.getD k aS.zero).saved = true := by
 unfold kG at h
 split at h
 ·rename_i aJ
  have e : l.findIdx (·.saved) = k := by omega
  subst e; refine ⟨aJ, fun j hj => ?_, ?_⟩
  ·have := List.not_of_lt_findIdx hj
   rw [List.getD_eq_getElem?_getD, List.getElem?_eq_getElem (by omega)]
   simpa using this
  ·have := List.findIdx_getElem (w := aJ)
   rw [List.getD_eq_getElem?_getD, List.getElem?_eq_getElem aJ]; exact this
 ·omega
theorem aHa {l : List aS} (h : kG l = -1) : gD l = l := by
 unfold kG at h
 split at h
 ·omega
 ·rename_i hn
  unfold gD; rw [List.filter_eq_self]
  intro x hx
  cases hs : x.saved
  ·rfl
  ·exact absurd (List.findIdx_lt_length_of_exists ⟨x, hx, hs⟩) hn
theorem aEh {A : List aS} {x : aS} {t : Nat} (h : t < A.length) : (A ++ [x]).getD t aS.zero = A.getD t aS.zero := by
 rw [List.getD_eq_getElem?_getD, List.getElem?_append_left h, ← List.getD_eq_getElem?_getD]
theorem aEi {A : List aS} {x : aS} {t : Nat} (h : A.length = t) : (A ++ [x]).getD t aS.zero = x := by
 rw [List.getD_eq_getElem?_getD, List.getElem?_append_right (by omega), h, Nat.sub_self]
 rfl
structure pX (w : World) (lo g n : Nat) (l : List aS) (j m : Nat) (wr : World) : Prop where
 bel : Below lo w wr
 row : ∃ cs : Array Value, wr.heap[g]? = some (.cells cs 39 (0, 0)) ∧ n * 3 ≤ cs.size ∧ (∀ t, t < m → tE cs (t * 3) ((gD (l.take j)).getD t aS.zero)) ∧ ∀ t, j ≤ t → t < n → tE cs (t * 3) (l.getD t aS.zero)
 len : (gD (l.take j)).length = m
theorem pX.next {w : World} {lo g n : Nat} {l : List aS} {j m : Nat} {wr w2 : World} (h : pX w lo g n l j m wr) (hb : Below wr.heap.size wr w2) (iE : lo ≤ w.heap.size) : pX w lo g n l j m w2 := by
 obtain ⟨cs, hg, r⟩ := h.row
 exact ⟨h.bel.trans (hb.mono (Nat.le_trans iE h.bel.size)), ⟨cs, (hb.block _ (aPp hg).1).trans hg, r⟩, h.len⟩
theorem pX.skip {w : World} {lo g n : Nat} {l : List aS} {j m : Nat} {wr : World} (h : pX w lo g n l j m wr) (hj : j < l.length) (hs : (l.getD j aS.zero).saved = true) : pX w lo g n l (j + 1) m wr := by
 obtain ⟨cs, hg, h1, h2, h3⟩ := h.row
 have e : gD (l.take (j + 1)) = gD (l.take j) := by rw [J3 hj, if_pos hs]
 exact ⟨h.bel, ⟨cs, hg, h1, by rw [e]; exact h2, fun t a b => h3 t (by omega) b⟩, by rw [e]; exact h.len⟩
def aA8 (w : World) (g o : Nat) (x : aS) : World := ((w.setCell ⟨g, o, none⟩ (.string x.item)).setCell ⟨g, o + 1, none⟩ (.int .i64 x.qty)).setCell ⟨g, o + 2, none⟩ (.bool x.saved)
theorem aHD {w : World} {g o : Nat} {x : aS} {cs : Array Value} {T : TypeId} (h : w.heap[g]? = some (.cells cs T (0, 0))) : (aA8 w g o x).heap[g]? = some (.cells (((cs.setIfInBounds o (.string x.item)).setIfInBounds (o + 1) (.int .i64 x.qty)).setIfInBounds (o + 2) (.bool x.saved)) T (0, 0)) :=
 heap_setCell_same _ _ _ _ _ _ (heap_setCell_same _ _ _ _ _ _ (heap_setCell_same _ _ _ _ _ _ h))
theorem aIY {cs : Array Value} {o : Nat} {x : aS} (h : o + 3 ≤ cs.size) : tE (((cs.setIfInBounds o (.string x.item)).setIfInBounds (o + 1) (.int .i64 x.qty)).setIfInBounds (o + 2) (.bool x.saved)) o x := by
 refine ⟨?_, ?_, ?_⟩
 ·rw [Array.getElem?_setIfInBounds_ne (by omega), Array.getElem?_setIfInBounds_ne (by omega), Array.getElem?_setIfInBounds_self_of_lt (by omega)]
 ·rw [Array.getElem?_setIfInBounds_ne (by omega), Array.getElem?_setIfInBounds_self_of_lt (by simp; omega)]
 ·rw [Array.getElem?_setIfInBounds_self_of_lt (by simp; omega)]
theorem aDp {cs : Array Value} {o p : Nat} {x y : aS} (h : tE cs p y) (hp : p + 3 ≤ o ∨ o + 3 ≤ p) : tE (((cs.setIfInBounds o (.string x.item)).setIfInBounds (o + 1) (.int .i64 x.qty)).setIfInBounds (o + 2) (.bool x.saved)) p y := by
 obtain ⟨h0, h1, h2⟩ := h
 refine ⟨?_, ?_, ?_⟩ <;> rw [Array.getElem?_setIfInBounds_ne (by omega), Array.getElem?_setIfInBounds_ne (by omega), Array.getElem?_setIfInBounds_ne (by omega)] <;> assumption
theorem pX.put {w : World} {lo g n : Nat} {l : List aS} {j m : Nat} {wr : World} (h : pX w lo g n l j m wr) (hl : l.length = n) (hj : j < n) (hs : (l.getD j aS.zero).saved = false) (iE : lo ≤ g) : pX w lo g n l (j + 1) (m + 1) (aA8 wr g (m * 3) (l.getD j aS.zero)) := by
 obtain ⟨cs, hg, h1, h2, h3⟩ := h.row
 have hm : m ≤ j := by rw [← h.len]; exact aGN l j
 have e : gD (l.take (j + 1)) = gD (l.take j) ++ [l.getD j aS.zero] := by rw [J3 (by omega), if_neg (by rw [hs]; decide)]
 refine ⟨((h.bel.setCell (p := ⟨g, m * 3, none⟩) iE _).setCell (p := ⟨g, m * 3 + 1, none⟩) iE _).setCell (p := ⟨g, m * 3 + 2, none⟩) iE _, ⟨_, aHD hg, by simpa using h1, fun t ht => ?_, fun t a b => aDp (h3 t (by omega) b) (by omega)⟩, by rw [e, List.length_append, h.len]; rfl⟩
 rw [e]
 rcases Nat.lt_or_ge t m with q | q
 ·rw [aEh (by rw [h.len]; exact q)]
  exact aDp (h2 t q) (by omega)
 ·obtain rfl : t = m := by omega
  rw [aEi h.len]; exact aIY (by omega)
theorem aLb (w : World) : (zeroValue 39).run Tryz.prog w = .ok (.agg #[.string ⟨#[]⟩, .int .i64 0, .bool false]) w := by kernel_rfl
theorem aES : ∀ (n : Nat), ∀ v ∈ (Builtin.zeroCells (Value.agg #[.string ⟨#[]⟩, .int .i64 0, .bool false]).cells n).toList, v.oneCell' = true := by
 intro n v hv
 rw [Array.mem_toList_iff] at hv
 unfold Builtin.zeroCells at hv
 obtain ⟨i, hi, rfl⟩ := Array.mem_map.1 hv
 show ((#[Value.string ⟨#[]⟩, .int .i64 0, .bool false] : Array Value)[i % 3]!).oneCell' = true
 have : i % 3 < 3 := Nat.mod_lt _ (by omega)
 match i % 3, this with
 | 0, _ => rfl
 | 1, _ => rfl
 | 2, _ => rfl
theorem pX.clear {w : World} {lo g n : Nat} {l : List aS} {m : Nat} {wr : World} (h : pX w lo g n l n m wr) (hm : m < n) (iE : lo ≤ g) : ∃ w2, (∀ ty c, (Builtin.clear_ #[42] ty #[.slice (some ⟨g, m * 3, none⟩) (n - m) c]).run Tryz.prog wr = .ok (.tuple #[]) w2) ∧ pX w lo g n l n m w2 := by
 obtain ⟨cs, hg, h1, h2, h3⟩ := h.row
 obtain ⟨Z, hZ⟩ : ∃ Z, Z = (Builtin.zeroCells (Value.agg #[.string ⟨#[]⟩, .int .i64 0, .bool false]).cells (n - m)).toList := ⟨_, rfl⟩
 have F1 : Z.length = (n - m) * 3 := by
  rw [hZ, Array.length_toList, size_zeroCells]
  rfl
 have dF := run_storeCells_at (P := Tryz.prog) g (m * 3) 39 Z 0 cs wr hg (by rw [F1]; omega) (by rw [hZ]; exact aES _)
 refine ⟨wr.setRow g (cs.toList.take (m * 3 + 0) ++ Z ++ cs.toList.drop (m * 3 + 0 + Z.length)).toArray, fun ty c => ?_, ?_⟩
 ·obtain ⟨k, hk⟩ : ∃ k, n - m = k + 1 := ⟨n - m - 1, by omega⟩
  rw [hk] at hZ ⊢; have iS := hZ.symm; simp [Builtin.clear_, run_underlying Tryz.underlying42, aLb, iS, dF]
 ·have aNI : ∀ (cs' : Array Value) k, k ≠ g → (wr.setRow g cs').heap[k]? = wr.heap[k]? := fun cs' k hk => setRow_other wr g k _ hk
  refine ⟨h.bel.trans ⟨rfl, rfl, rfl, Nat.le_of_eq (by show wr.heap.size = (wr.heap.modify g _).size; rw [Array.size_modify]), fun k hk => aNI _ k (by omega)⟩, ⟨_, setRow_heap wr g cs _ _ _ hg, ?_, fun t ht => ?_, fun t a b => absurd b (by omega)⟩, h.len⟩
  ·simp only [List.size_toArray, List.length_append, List.length_take, List.length_drop, F1, Array.length_toList]
   omega
  ·obtain ⟨a0, a1, a2⟩ := h2 t ht
   have key : ∀ u, u < 3 → (((cs.toList.take (m * 3 + 0)) ++ Z ++ cs.toList.drop (m * 3 + 0 + (Z).length)).toArray)[t * 3 + u]? = cs[t * 3 + u]? := fun u hu => by
    rw [List.getElem?_toArray, List.append_assoc, List.getElem?_append_left (by rw [List.length_take, Array.length_toList]; omega), List.getElem?_take_of_lt (by omega), Array.getElem?_toList]
   exact ⟨(key 0 (by omega)).trans a0, (key 1 (by omega)).trans a1, (key 2 (by omega)).trans a2⟩
def aJf (lo : Nat) (F : List aS) (w : World) (e : Ending) (w' : World) : Prop := ∃ a c, e = .returned (.slice a F.length c) ∧ zD w' w'.heap.size a F.length F ∧ F.length ≤ c ∧ Below lo w w'
theorem aHv {cs : Array Value} {p : Nat} {x : aS} (h : tE cs p x) {w : World} {g : Nat} {T : TypeId} (hg : w.heap[g]? = some (.cells cs T (0, 0))) : aBw w g (0 + p) x := by
 rw [Nat.zero_add]
 exact h.at hg
theorem aBM {w : World} {lo : Nat} {a : Option Addr} {n c : Nat} {l : List aS} (h : w.ownsRow lo 39 3 (.slice a n c) n (eS l)) : zD w w.heap.size a n l := by
 obtain ⟨a', c', e, aU⟩ := sK h aPq
 injection e with e1 _ _
 subst e1
 exact aU.rows
theorem aDe (w : World) (lo : Nat) (a : Option Addr) (n c : Nat) (l : List aS) (aU : w.ownsRow lo 39 3 (.slice a n c) n (eS l)) (iE : lo ≤ w.heap.size) (hn : n ≤ 1048576) (hM : kG l = -1) :
  Calls Tryz.prog 132 #[.slice a n c, .func (.func 133) #[] #[]] w (aJf lo (gD l) w) := by
 have hl : l.length = n := by have := aU.1; rw [qQ] at this; omega
 have HK := aPo (aHa hM)
 have aC6 := aBM aU
 have dV := aPo aC6
 have iJ := aPo (gA aU).1
 have HL := aPo hl
 clear aU hl aC6
 go_enter Tryz.func132, Tryz.ntmps132
 go_wp2_with fail
 refine (aAq w w.heap.size a n c l dV.out aPq hn).mono ?_
 rintro e w1 ⟨rfl, aG⟩
 rw [hM]
 have HB := aPo aG
 clear aG hM
 go_wp2
 go_ret
 refine ⟨a, c, by rw [HK.out, HL.out]; rfl, ?_, by rw [HK.out, HL.out]; exact iJ.out, HB.out.mono iE⟩
 rw [HK.out, HL.out]
 exact (dV.out.below HB.out aPq).more HB.out.size
set_option maxHeartbeats 40000000 in
theorem aB8 (w : World) (lo g n c k : Nat) (l : List aS) (aU : w.ownsRow lo 39 3 (.slice (some ⟨g, 0, none⟩) n c) n (eS l)) (iE : lo ≤ w.heap.size) (hn : n ≤ 1048576) (aIk : kG l = (k : Int)) :
  Calls Tryz.prog 132 #[.slice (some ⟨g, 0, none⟩) n c, .func (.func 133) #[] #[]] w (aJf lo (gD l) w) := by
 have hl : l.length = n := by have := aU.1; rw [qQ] at this; omega
 obtain ⟨f1, f2, f3⟩ := aBU aIk
 have jJ := (gA aU).1
 have F7 := (gA aU).2.1
 unfold D4 maxLen at F7
 have aC6 := aBM aU
 have dV := aPo aC6
 have hkn : k < n := by omega
 obtain ⟨hlg, jH⟩ := aU.lt g rfl
 have HD0 : Hid (pX w lo g n l (k + 1) k w) := by
  rcases aU.2 with ⟨e, _⟩ | ⟨g', gF, aW, e, hg', hc, _, _, dC, ht⟩
  ·cases e
  ·injection e with e1 _ e3
   injection e1 with e1; injection e1 with e1; subst e1 e3; have hin : ∀ t, t < n → tE aW (t * 3) (l.getD t aS.zero) := fun t ht' => by
    have key : ∀ u, u < 3 → aW[t * 3 + u]? = (kK (l.getD t aS.zero))[u]? := fun u hu => by
     rw [← I6 l t u (by omega) hu, ← ht, List.getElem?_take_of_lt (by omega), Array.getElem?_toList]
    exact ⟨key 0 (by omega), key 1 (by omega), key 2 (by omega)⟩
   have e2 : gD (l.take (k + 1)) = l.take k := by rw [J3 (by omega), if_pos f3, aEe (by omega) f2]
   refine ⟨Below.refl _ _, ⟨aW, hc, by omega, fun t ht' => ?_, fun t _ b => hin t b⟩, by rw [e2, List.length_take]; omega⟩
   rw [e2, List.getD_eq_getElem?_getD, List.getElem?_take_of_lt ht', ← List.getD_eq_getElem?_getD]; exact hin t (by omega)
 have HL := aPo hl
 have HY := aPo aIk
 clear aU hl aC6 f1 f2 f3 aIk
 go_enter Tryz.func132, Tryz.ntmps132
 go_wp2_with fail
 refine (aAq w w.heap.size _ n c l dV.out aPq hn).mono ?_
 rintro e w1 ⟨rfl, aG⟩
 rw [HY.out]
 have pV := aPo (HD0.out.next aG iE)
 clear aG HD0 HY dV
 have hk1 : ¬ ((k : Int) = -1) := by omega
 have hk2 : ((k : Int) == -1) = false := beq_eq_false_iff_ne.2 hk1
 have hwk : IntKind.i64.wrap ((k : Int) + 1) = (k : Int) + 1 := IntWalk.i64_in _ (by omega)
 go_wp2
 go_loopw [5, 6] (fun i j wr => ∃ p m : Nat, p ≤ n ∧ m < p ∧ i = .int .i64 (m : Int) ∧ j = .int .i64 (p : Int) ∧ Hid (pX w lo g n l p m wr)) (fun _ j _ => n - (intOf j).toNat)
 case atStart => exact ⟨k + 1, k, by omega, by omega, rfl, by go_num, pV⟩
 case round =>
  obtain ⟨p, m, hp, hm, rfl, rfl, HD⟩ := hrel; have hwm : IntKind.i64.wrap ((m : Int) + 1) = (m : Int) + 1 := IntWalk.i64_in _ (by omega)
  have hwp : IntKind.i64.wrap ((p : Int) + 1) = (p : Int) + 1 := IntWalk.i64_in _ (by omega)
  by_cases aJ : p < n
  rotate_left
  ·obtain rfl : p = n := by omega
   obtain ⟨w2, aLD, hd2⟩ := HD.out.clear hm hlg; have zS := aPo hd2; have hmi : (m : Int) ≤ (p : Int) := by omega
   have hmc : ¬ (c = m) := by omega
   have aOS : (m : Int) ≤ (c : Int) := by omega
   have aOO : (p : Int) ≤ (c : Int) := by omega
   have aO8 := fun ty => aLD ty (c - m)
   clear aLD hd2 HD; go_wp2
   go_ret
   have HDp := zS.out; have e5 : gD (l.take p) = gD l := by rw [List.take_of_length_le (by have := HL.out; omega)]
   have mQ := HDp.len; rw [e5] at mQ; obtain ⟨cs, hg, q1, q2, _⟩ := HDp.row; refine ⟨some ⟨g, 0, none⟩, c, by rw [mQ]; rfl, ?_, by omega, HDp.bel⟩
   rw [mQ]; refine ⟨mQ, fun t ht => ⟨g, 0, rfl, (aPp hg).1, ?_⟩⟩
   rw [e5] at q2; exact aHv (q2 t ht) hg
  have hpi : (p : Int) < (n : Int) := by omega
  have hmi : (m : Int) < (n : Int) := by omega
  have j1 : Hid ((l.getD p aS.zero).saved = true → pX w lo g n l (p + 1) m wr) := fun h => HD.out.skip (by have := HL.out; omega) h
  obtain ⟨cs, hg, q1, q2, q3⟩ := HD.out.row; have iF : g < wr.heap.size := (aPp hg).1; obtain ⟨c0, c1, c2⟩ := (q3 p aPq aJ).at hg; have HX : ∃ x, x = l.getD p aS.zero := ⟨_, rfl⟩; obtain ⟨x, hx⟩ := HX; rw [← hx] at c0 c1 c2 j1; have HXE := aPo hx; clear hx hg q1 q2 q3
  go_upto_region 8 with fail
  have aT := (Below.refl wr.heap.size wr).alloc aPq (.cells #[.string x.item, .int .i64 x.qty, .bool x.saved] 39); have zS := aPo (HD.out.next aT iE); have lN := aPo (heap_alloc_new wr (.cells #[.string x.item, .int .i64 x.qty, .bool x.saved] 39)); have eC := aT.size; clear aT c0 c1 c2 j1 HD; generalize wr.alloc (.cells #[.string x.item, .int .i64 x.qty, .bool x.saved] 39) = w2 at zS lN eC ⊢; have S2 : wr.heap.size < w2.heap.size := (aPp lN.out).1; generalize wr.heap.size = xb at lN eC S2 iF ⊢; obtain ⟨d0, d1, d2⟩ := vK lN.out
  go_wp2_with fail
  refine (aEt x w2).mono ?_
  rintro e w3 ⟨rfl, aV⟩; have j5 := aPo (zS.out.next aV iE); have nU := aPo ((aV.block _ S2).trans lN.out); have gO := aV.size; clear aV d0 d1 d2 zS lN
  by_cases hsv : x.saved = true
  ·have qY : Hid (pX w lo g n l (p + 1) m w3) := j5.out.skip (by have := HL.out; omega) (by rw [← HXE.out]; exact hsv)
   rw [hsv]; clear j5; go_wp2
   go_roundw
   case rel => exact ⟨p + 1, m, by omega, by omega, rfl, by go_num, qY⟩
   case measure => simp [intOf]; omega
  ·have sV : x.saved = false := Bool.eq_false_iff.2 hsv
   have qY : Hid (pX w lo g n l (p + 1) (m + 1) (aA8 w3 g (m * 3) x)) := by
    have h := j5.out.put HL.out aJ (by rw [← HXE.out]; exact sV) hlg
    rw [← HXE.out] at h; exact h
   obtain ⟨cs, hg, q1, q2, q3⟩ := j5.out.row; obtain ⟨d0, d1, d2⟩ := vK nU.out; have hz : ∀ u, u < 3 → ∃ v, w3.cell? ⟨g, m * 3 + u, none⟩ = some v := fun u hu => ⟨_, (aPr hg).trans (Array.getElem?_eq_getElem (by omega))⟩
   obtain ⟨z0, e0⟩ := hz 0 (by omega)
   obtain ⟨z1, e1⟩ := hz 1 (by omega)
   obtain ⟨z2, e2⟩ := hz 2 (by omega)
   rw [Nat.add_zero] at e0; have t0 : w3.frozen? ⟨g, m * 3, none⟩ = false := aPs hg; have t1 : w3.frozen? ⟨g, m * 3 + 1, none⟩ = false := aPs hg; have t2 : w3.frozen? ⟨g, m * 3 + 2, none⟩ = false := aPs hg; rw [sV]; rw [sV] at d2; clear hz hg q1 q2 q3 j5
   go_upto_region 10 with fail
   have e9 : ((w3.setCell ⟨g, m * 3, none⟩ (.string x.item)).setCell ⟨g, m * 3 + 1, none⟩ (.int .i64 x.qty)).setCell ⟨g, m * 3 + 2, none⟩ (.bool false) = aA8 w3 g (m * 3) x := by unfold aA8; rw [sV]
   rw [e9]; generalize aA8 w3 g (m * 3) x = w4 at qY ⊢; clear d0 d1 d2 e0 e1 e2 t0 t1 t2 e9; go_wp2
   go_roundw
   case rel => exact ⟨p + 1, m + 1, by omega, by omega, by go_num, by go_num, qY⟩
   case measure => simp [intOf]; omega
theorem aEk (w : World) (lo : Nat) (a : Option Addr) (n c : Nat) (l : List aS) (aU : w.ownsRow lo 39 3 (.slice a n c) n (eS l)) (iE : lo ≤ w.heap.size) (hn : n ≤ 1048576) :
  Calls Tryz.prog 132 #[.slice a n c, .func (.func 133) #[] #[]] w (aJf lo (gD l) w) := by
 by_cases h : kG l = -1
 ·exact aDe w lo a n c l aU iE hn h
 ·obtain ⟨k, hk⟩ : ∃ k : Nat, kG l = (k : Int) := by
   unfold kG at h ⊢
   split at h
   ·rename_i aJ
    exact ⟨l.findIdx (·.saved), by rw [if_pos aJ]⟩
   ·exact absurd rfl h
  have hl : l.length = n := by have := aU.1; rw [qQ] at this; omega
  have hkl := (aBU hk).1; rcases aU.2 with ⟨e, e2⟩ | ⟨g, cap, aW, e, _⟩
  ·omega
  ·injection e with e1 _ e3
   subst e1; exact aB8 w lo g n c k l aU iE hn hk
end Go.Proofs.YthkagbnpcjidfaaGreatDoor
