/- Walks and mathematics that several claims share, part 38. -/
import Derived.Test.YthkagbnpcjidfaaGreatDoorGq37
import Derived.Test.YthkagbnpcjidfaaGreatDoorGq30
import Derived.Laws.CopyRow
import Derived.Lib.SliceRun
import Derived.Deep.Cut
import Derived.Lib.Hide
namespace Go.Proofs.YthkagbnpcjidfaaGreatDoor
set_option maxRecDepth 100000
open Go.RowKit
set_option linter.unusedVariables false
set_option linter.unusedSimpArgs false
theorem wZ {w : World} {b : Nat} {v0 v1 v2 : Value} {T : TypeId} {fr : Nat × Nat} (h : w.heap[b]? = some (.cells #[v0, v1, v2] T fr)) : w.cell? ⟨b, 0, none⟩ = some v0 ∧ w.cell? ⟨b, 1, none⟩ = some v1 ∧ w.cell? ⟨b, 2, none⟩ = some v2 :=
 ⟨aRs h, aRs h, aRs h⟩
theorem aF6 (x : bP) (w : World) : Calls Tryz.prog 133 #[.agg #[.string x.item, .int .i64 x.qty, .bool x.saved]] w fun e w' => e = .returned (.bool x.saved) ∧ Below w.heap.size w w' := by
 have HB := aRp ((Below.refl w.heap.size w).alloc aRr (.cells #[.string x.item, .int .i64 x.qty, .bool x.saved] 39))
 have HN := aRp (heap_alloc_new w (.cells #[.string x.item, .int .i64 x.qty, .bool x.saved] 39))
 go_enter Tryz.func133, Tryz.ntmps133
 go_upto_region 1 with fail
 generalize w.alloc (.cells #[.string x.item, .int .i64 x.qty, .bool x.saved] 39) = w1 at HB HN ⊢
 obtain ⟨c0, c1, c2⟩ := wZ HN.out
 go_wp2
 go_ret
 exact ⟨rfl, HB.out⟩
def kI (l : List bP) : Int := if l.findIdx (·.saved) < l.length then ((l.findIdx (·.saved) : Nat) : Int) else -1
theorem aIM {l : List bP} {k : Nat} (hk : k < l.length) (h : ∀ j, j < k → (l.getD j bP.zero).saved = false) (hs : (l.getD k bP.zero).saved = true) : kI l = (k : Int) := by
 have e : l.findIdx (·.saved) = k := by
  rw [List.findIdx_eq hk]; refine ⟨?_, fun j hj => ?_⟩
  ·rw [List.getD_eq_getElem?_getD, List.getElem?_eq_getElem hk] at hs
   exact hs
  ·have := h j hj
   rw [List.getD_eq_getElem?_getD, List.getElem?_eq_getElem (by omega)] at this
   exact this
 unfold kI
 rw [e, if_pos hk]
theorem aFX {l : List bP} (h : ∀ j, j < l.length → (l.getD j bP.zero).saved = false) : kI l = -1 := by
 unfold kI
 rw [if_neg]
 intro aM
 have hp := List.findIdx_getElem (w := aM)
 have := h _ aM
 rw [List.getD_eq_getElem?_getD, List.getElem?_eq_getElem aM] at this
 have h2 : (l[l.findIdx (·.saved)]).saved = false := this
 have h3 : (l[l.findIdx (·.saved)]).saved = true := hp
 rw [h2] at h3
 cases h3
set_option maxHeartbeats 20000000 in
theorem aBS (w : World) (B : Nat) (a : Option Addr) (n c : Nat) (l : List bP) (h : D1 w B a n l) (hB : B ≤ w.heap.size) (hn : n ≤ 1048576) :
  Calls Tryz.prog 152 #[.slice a n c, .func (.func 133) #[] #[]] w fun e w' => e = .returned (.int .i64 (kI l)) ∧ Below w.heap.size w w' := by
 have HO := aRp h
 have HL := aRp h.1
 clear h
 go_enter Tryz.func152, Tryz.ntmps152
 go_wp2
 go_loopw [8] (fun i wr => ∃ k : Nat, k ≤ n ∧ i = .int .i64 (k : Int) ∧ Hid (∀ j, j < k → (l.getD j bP.zero).saved = false) ∧ Hid (Below w.heap.size w wr)) (fun i _ => n - (intOf i).toNat)
 case atStart => exact ⟨0, Nat.zero_le _, rfl, fun j hj => absurd hj (by omega), Below.refl _ _⟩
 case round =>
  obtain ⟨k, hk, rfl, HF, HB⟩ := hrel
  by_cases aM : k < n
  rotate_left
  ·obtain rfl : k = n := by omega
   have HR : Hid (kI l = -1) := aFX (fun j hj => HF.out j (by have := HL.out; omega))
   go_wp2
   go_ret
   exact ⟨by rw [HR.out]; rfl, HB.out⟩
  obtain ⟨b, off, rfl, hb, hc⟩ := HO.out.2 k aM; have hki : (k : Int) < (n : Int) := by omega
  obtain ⟨c0, c1, c2⟩ := hc.kept (HB.out.block b (by omega))
  have Y2 : Hid ((l.getD k bP.zero).saved = false → ∀ j, j < k + 1 → (l.getD j bP.zero).saved = false) := fun h0 j hj => by
   rcases Nat.lt_or_ge j k with q | q
   ·exact HF.out j q
   ·obtain rfl : j = k := by omega
    exact h0
  have aKK : Hid ((l.getD k bP.zero).saved = true → kI l = (k : Int)) := fun h1 => aIM (by have := HL.out; omega) HF.out h1
  clear hc HF; generalize l.getD k bP.zero = x at c0 c1 c2 Y2 aKK
  go_wp2_with fail
  refine (aF6 x wr).mono ?_
  rintro e w2 ⟨rfl, aI⟩; have cA := aRp (HB.out.trans (aI.mono HB.out.size)); clear aI c0 c1 c2 HB; obtain ⟨xi, xq, xs⟩ := x
  dsimp only at Y2 aKK ⊢
  cases xs
  ·go_wp2
   go_roundw
   case rel => exact ⟨k + 1, by omega, by go_num, Y2.out rfl, cA⟩
   case measure => simp [intOf]; omega
  ·have HR := aRp (aKK.out rfl)
   go_wp2
   go_ret
   exact ⟨by rw [HR.out]; rfl, cA.out⟩
def gB (l : List bP) : List bP := l.filter fun x => !x.saved
theorem Q2 {l : List bP} {j : Nat} (hj : j < l.length) : gB (l.take (j + 1)) = if (l.getD j bP.zero).saved = true then gB (l.take j) else gB (l.take j) ++ [l.getD j bP.zero] := by
 have e : l.take (j + 1) = l.take j ++ [l.getD j bP.zero] := by
  rw [List.take_succ_eq_append_getElem hj, List.getD_eq_getElem?_getD, List.getElem?_eq_getElem hj]
  rfl
 rw [e]
 unfold gB
 rw [List.filter_append]
 by_cases h : (l.getD j bP.zero).saved = true
 ·rw [if_pos h, List.filter_cons, if_neg (by rw [h]; decide)]
  simp
 ·have h' : (l.getD j bP.zero).saved = false := Bool.eq_false_iff.2 h
  rw [if_neg h, List.filter_cons, if_pos (by rw [h']; rfl)]
  rfl
theorem aIp (l : List bP) (j : Nat) : (gB (l.take j)).length ≤ j := by
 have h1 : (gB (l.take j)).length ≤ (l.take j).length := List.length_filter_le _ _
 rw [List.length_take] at h1
 omega
theorem aFQ {l : List bP} {k : Nat} (hk : k ≤ l.length) (h : ∀ j, j < k → (l.getD j bP.zero).saved = false) : gB (l.take k) = l.take k := by
 unfold gB
 rw [List.filter_eq_self]
 intro x hx
 obtain ⟨j, hj, rfl⟩ := List.getElem_of_mem hx
 rw [List.length_take] at hj
 have := h j (by omega)
 rw [List.getD_eq_getElem?_getD, List.getElem?_eq_getElem (by omega)] at this
 rw [List.getElem_take]
 simpa using this
theorem aDg {l : List bP} {k : Nat} (h : kI l = (k : Int)) : k < l.length ∧ (∀ j, j < k → (l.getD j bP.zero).saved = false) ∧ (l.getD k bP.zero).saved = true := by
 unfold kI at h
 split at h
 ·rename_i aM
  have e : l.findIdx (·.saved) = k := by omega
  subst e; refine ⟨aM, fun j hj => ?_, ?_⟩
  ·have := List.not_of_lt_findIdx hj
   rw [List.getD_eq_getElem?_getD, List.getElem?_eq_getElem (by omega)]
   simpa using this
  ·have := List.findIdx_getElem (w := aM)
   rw [List.getD_eq_getElem?_getD, List.getElem?_eq_getElem aM]; exact this
 ·omega
theorem aIL {l : List bP} (h : kI l = -1) : gB l = l := by
 unfold kI at h
 split at h
 ·omega
 ·rename_i hn
  unfold gB; rw [List.filter_eq_self]
  intro x hx
  cases hs : x.saved
  ·rfl
  ·exact absurd (List.findIdx_lt_length_of_exists ⟨x, hx, hs⟩) hn
theorem aFV {A : List bP} {x : bP} {t : Nat} (h : t < A.length) : (A ++ [x]).getD t bP.zero = A.getD t bP.zero := by
 rw [List.getD_eq_getElem?_getD, List.getElem?_append_left h, ← List.getD_eq_getElem?_getD]
theorem aFW {A : List bP} {x : bP} {t : Nat} (h : A.length = t) : (A ++ [x]).getD t bP.zero = x := by
 rw [List.getD_eq_getElem?_getD, List.getElem?_append_right (by omega), h, Nat.sub_self]
 rfl
structure qR (w : World) (lo g n : Nat) (l : List bP) (j m : Nat) (wr : World) : Prop where
 bel : Below lo w wr
 row : ∃ cs : Array Value, wr.heap[g]? = some (.cells cs 39 (0, 0)) ∧ n * 3 ≤ cs.size ∧ (∀ t, t < m → uC cs (t * 3) ((gB (l.take j)).getD t bP.zero)) ∧ ∀ t, j ≤ t → t < n → uC cs (t * 3) (l.getD t bP.zero)
 len : (gB (l.take j)).length = m
theorem qR.next {w : World} {lo g n : Nat} {l : List bP} {j m : Nat} {wr w2 : World} (h : qR w lo g n l j m wr) (hb : Below wr.heap.size wr w2) (iS : lo ≤ w.heap.size) : qR w lo g n l j m w2 := by
 obtain ⟨cs, hg, r⟩ := h.row
 exact ⟨h.bel.trans (hb.mono (Nat.le_trans iS h.bel.size)), ⟨cs, (hb.block _ (aRq hg).1).trans hg, r⟩, h.len⟩
theorem qR.skip {w : World} {lo g n : Nat} {l : List bP} {j m : Nat} {wr : World} (h : qR w lo g n l j m wr) (hj : j < l.length) (hs : (l.getD j bP.zero).saved = true) : qR w lo g n l (j + 1) m wr := by
 obtain ⟨cs, hg, h1, h2, h3⟩ := h.row
 have e : gB (l.take (j + 1)) = gB (l.take j) := by rw [Q2 hj, if_pos hs]
 exact ⟨h.bel, ⟨cs, hg, h1, by rw [e]; exact h2, fun t a b => h3 t (by omega) b⟩, by rw [e]; exact h.len⟩
def aCo (w : World) (g o : Nat) (x : bP) : World := ((w.setCell ⟨g, o, none⟩ (.string x.item)).setCell ⟨g, o + 1, none⟩ (.int .i64 x.qty)).setCell ⟨g, o + 2, none⟩ (.bool x.saved)
theorem aJa {w : World} {g o : Nat} {x : bP} {cs : Array Value} {T : TypeId} (h : w.heap[g]? = some (.cells cs T (0, 0))) : (aCo w g o x).heap[g]? = some (.cells (((cs.setIfInBounds o (.string x.item)).setIfInBounds (o + 1) (.int .i64 x.qty)).setIfInBounds (o + 2) (.bool x.saved)) T (0, 0)) :=
 heap_setCell_same _ _ _ _ _ _ (heap_setCell_same _ _ _ _ _ _ (heap_setCell_same _ _ _ _ _ _ h))
theorem aKu {cs : Array Value} {o : Nat} {x : bP} (h : o + 3 ≤ cs.size) : uC (((cs.setIfInBounds o (.string x.item)).setIfInBounds (o + 1) (.int .i64 x.qty)).setIfInBounds (o + 2) (.bool x.saved)) o x := by
 refine ⟨?_, ?_, ?_⟩
 ·rw [Array.getElem?_setIfInBounds_ne (by omega), Array.getElem?_setIfInBounds_ne (by omega), Array.getElem?_setIfInBounds_self_of_lt (by omega)]
 ·rw [Array.getElem?_setIfInBounds_ne (by omega), Array.getElem?_setIfInBounds_self_of_lt (by simp; omega)]
 ·rw [Array.getElem?_setIfInBounds_self_of_lt (by simp; omega)]
theorem aE5 {cs : Array Value} {o p : Nat} {x y : bP} (h : uC cs p y) (hp : p + 3 ≤ o ∨ o + 3 ≤ p) : uC (((cs.setIfInBounds o (.string x.item)).setIfInBounds (o + 1) (.int .i64 x.qty)).setIfInBounds (o + 2) (.bool x.saved)) p y := by
 obtain ⟨h0, h1, h2⟩ := h
 refine ⟨?_, ?_, ?_⟩ <;> rw [Array.getElem?_setIfInBounds_ne (by omega), Array.getElem?_setIfInBounds_ne (by omega), Array.getElem?_setIfInBounds_ne (by omega)] <;> assumption
theorem qR.put {w : World} {lo g n : Nat} {l : List bP} {j m : Nat} {wr : World} (h : qR w lo g n l j m wr) (hl : l.length = n) (hj : j < n) (hs : (l.getD j bP.zero).saved = false) (iS : lo ≤ g) : qR w lo g n l (j + 1) (m + 1) (aCo wr g (m * 3) (l.getD j bP.zero)) := by
 obtain ⟨cs, hg, h1, h2, h3⟩ := h.row
 have hm : m ≤ j := by rw [← h.len]; exact aIp l j
 have e : gB (l.take (j + 1)) = gB (l.take j) ++ [l.getD j bP.zero] := by rw [Q2 (by omega), if_neg (by rw [hs]; decide)]
 refine ⟨((h.bel.setCell (p := ⟨g, m * 3, none⟩) iS _).setCell (p := ⟨g, m * 3 + 1, none⟩) iS _).setCell (p := ⟨g, m * 3 + 2, none⟩) iS _, ⟨_, aJa hg, by simpa using h1, fun t ht => ?_, fun t a b => aE5 (h3 t (by omega) b) (by omega)⟩, by rw [e, List.length_append, h.len]; rfl⟩
 rw [e]
 rcases Nat.lt_or_ge t m with q | q
 ·rw [aFV (by rw [h.len]; exact q)]
  exact aE5 (h2 t q) (by omega)
 ·obtain rfl : t = m := by omega
  rw [aFW h.len]; exact aKu (by omega)
theorem aM7 (w : World) : (zeroValue 39).run Tryz.prog w = .ok (.agg #[.string ⟨#[]⟩, .int .i64 0, .bool false]) w := by kernel_rfl
theorem aGw : ∀ (n : Nat), ∀ v ∈ (Builtin.zeroCells (Value.agg #[.string ⟨#[]⟩, .int .i64 0, .bool false]).cells n).toList, v.oneCell' = true := by
 intro n v hv
 rw [Array.mem_toList_iff] at hv
 unfold Builtin.zeroCells at hv
 obtain ⟨i, hi, rfl⟩ := Array.mem_map.1 hv
 show ((#[Value.string ⟨#[]⟩, .int .i64 0, .bool false] : Array Value)[i % 3]!).oneCell' = true
 have : i % 3 < 3 := Nat.mod_lt _ (by omega)
 match i % 3, this with
 | 0, _ => rfl
 | 1, _ => rfl
 | 2, _ => rfl
theorem qR.clear {w : World} {lo g n : Nat} {l : List bP} {m : Nat} {wr : World} (h : qR w lo g n l n m wr) (hm : m < n) (iS : lo ≤ g) : ∃ w2, (∀ ty c, (Builtin.clear_ #[42] ty #[.slice (some ⟨g, m * 3, none⟩) (n - m) c]).run Tryz.prog wr = .ok (.tuple #[]) w2) ∧ qR w lo g n l n m w2 := by
 obtain ⟨cs, hg, h1, h2, h3⟩ := h.row
 obtain ⟨Z, hZ⟩ : ∃ Z, Z = (Builtin.zeroCells (Value.agg #[.string ⟨#[]⟩, .int .i64 0, .bool false]).cells (n - m)).toList := ⟨_, rfl⟩
 have M8 : Z.length = (n - m) * 3 := by
  rw [hZ, Array.length_toList, size_zeroCells]
  rfl
 have eY := run_storeCells_at (P := Tryz.prog) g (m * 3) 39 Z 0 cs wr hg (by rw [M8]; omega) (by rw [hZ]; exact aGw _)
 refine ⟨wr.setRow g (cs.toList.take (m * 3 + 0) ++ Z ++ cs.toList.drop (m * 3 + 0 + Z.length)).toArray, fun ty c => ?_, ?_⟩
 ·obtain ⟨k, hk⟩ : ∃ k, n - m = k + 1 := ⟨n - m - 1, by omega⟩
  rw [hk] at hZ ⊢; have jN := hZ.symm; simp [Builtin.clear_, run_underlying Tryz.underlying42, aM7, jN, eY]
 ·have aPL : ∀ (cs' : Array Value) k, k ≠ g → (wr.setRow g cs').heap[k]? = wr.heap[k]? := fun cs' k hk => setRow_other wr g k _ hk
  refine ⟨h.bel.trans ⟨rfl, rfl, rfl, Nat.le_of_eq (by show wr.heap.size = (wr.heap.modify g _).size; rw [Array.size_modify]), fun k hk => aPL _ k (by omega)⟩, ⟨_, setRow_heap wr g cs _ _ _ hg, ?_, fun t ht => ?_, fun t a b => absurd b (by omega)⟩, h.len⟩
  ·simp only [List.size_toArray, List.length_append, List.length_take, List.length_drop, M8, Array.length_toList]
   omega
  ·obtain ⟨a0, a1, a2⟩ := h2 t ht
   have key : ∀ u, u < 3 → (((cs.toList.take (m * 3 + 0)) ++ Z ++ cs.toList.drop (m * 3 + 0 + (Z).length)).toArray)[t * 3 + u]? = cs[t * 3 + u]? := fun u hu => by
    rw [List.getElem?_toArray, List.append_assoc, List.getElem?_append_left (by rw [List.length_take, Array.length_toList]; omega), List.getElem?_take_of_lt (by omega), Array.getElem?_toList]
   exact ⟨(key 0 (by omega)).trans a0, (key 1 (by omega)).trans a1, (key 2 (by omega)).trans a2⟩
def aKP (lo : Nat) (F : List bP) (w : World) (e : Ending) (w' : World) : Prop := ∃ a c, e = .returned (.slice a F.length c) ∧ D1 w' w'.heap.size a F.length F ∧ F.length ≤ c ∧ Below lo w w'
theorem aI5 {cs : Array Value} {p : Nat} {x : bP} (h : uC cs p x) {w : World} {g : Nat} {T : TypeId} (hg : w.heap[g]? = some (.cells cs T (0, 0))) : aCN w g (0 + p) x := by
 rw [Nat.zero_add]
 exact h.at hg
theorem aC6 {w : World} {lo : Nat} {a : Option Addr} {n c : Nat} {l : List bP} (h : w.ownsRow lo 39 3 (.slice a n c) n (eR l)) : D1 w w.heap.size a n l := by
 obtain ⟨a', c', e, aZ⟩ := tK h aRr
 injection e with e1 _ _
 subst e1
 exact aZ.rows
theorem aER (w : World) (lo : Nat) (a : Option Addr) (n c : Nat) (l : List bP) (aZ : w.ownsRow lo 39 3 (.slice a n c) n (eR l)) (iS : lo ≤ w.heap.size) (hn : n ≤ 1048576) (iR : kI l = -1) :
  Calls Tryz.prog 132 #[.slice a n c, .func (.func 133) #[] #[]] w (aKP lo (gB l) w) := by
 have hl : l.length = n := by have := aZ.1; rw [rH] at this; omega
 have HK := aRp (aIL iR)
 have aEK := aC6 aZ
 have dU := aRp aEK
 have nL := aRp (fY aZ).1
 have HL := aRp hl
 clear aZ hl aEK
 go_enter Tryz.func132, Tryz.ntmps132
 go_wp2_with fail
 refine (aBS w w.heap.size a n c l dU.out aRr hn).mono ?_
 rintro e w1 ⟨rfl, aF⟩
 rw [iR]
 have HB := aRp aF
 clear aF iR
 go_wp2
 go_ret
 refine ⟨a, c, by rw [HK.out, HL.out]; rfl, ?_, by rw [HK.out, HL.out]; exact nL.out, HB.out.mono iS⟩
 rw [HK.out, HL.out]
 exact (dU.out.below HB.out aRr).more HB.out.size
set_option maxHeartbeats 40000000 in
theorem aDv (w : World) (lo g n c k : Nat) (l : List bP) (aZ : w.ownsRow lo 39 3 (.slice (some ⟨g, 0, none⟩) n c) n (eR l)) (iS : lo ≤ w.heap.size) (hn : n ≤ 1048576) (aJS : kI l = (k : Int)) :
  Calls Tryz.prog 132 #[.slice (some ⟨g, 0, none⟩) n c, .func (.func 133) #[] #[]] w (aKP lo (gB l) w) := by
 have hl : l.length = n := by have := aZ.1; rw [rH] at this; omega
 obtain ⟨f1, f2, f3⟩ := aDg aJS
 have jQ := (fY aZ).1
 have N2 := (fY aZ).2.1
 unfold K3 maxLen at N2
 have aEK := aC6 aZ
 have dU := aRp aEK
 have hkn : k < n := by omega
 obtain ⟨hlg, jG⟩ := aZ.lt g rfl
 have HD0 : Hid (qR w lo g n l (k + 1) k w) := by
  rcases aZ.2 with ⟨e, _⟩ | ⟨g', fB, aY, e, hg', hc, _, _, dA, ht⟩
  ·cases e
  ·injection e with e1 _ e3
   injection e1 with e1; injection e1 with e1; subst e1 e3; have hin : ∀ t, t < n → uC aY (t * 3) (l.getD t bP.zero) := fun t ht' => by
    have key : ∀ u, u < 3 → aY[t * 3 + u]? = (kN (l.getD t bP.zero))[u]? := fun u hu => by
     rw [← P7 l t u (by omega) hu, ← ht, List.getElem?_take_of_lt (by omega), Array.getElem?_toList]
    exact ⟨key 0 (by omega), key 1 (by omega), key 2 (by omega)⟩
   have e2 : gB (l.take (k + 1)) = l.take k := by rw [Q2 (by omega), if_pos f3, aFQ (by omega) f2]
   refine ⟨Below.refl _ _, ⟨aY, hc, by omega, fun t ht' => ?_, fun t _ b => hin t b⟩, by rw [e2, List.length_take]; omega⟩
   rw [e2, List.getD_eq_getElem?_getD, List.getElem?_take_of_lt ht', ← List.getD_eq_getElem?_getD]; exact hin t (by omega)
 have HL := aRp hl
 have HY := aRp aJS
 clear aZ hl aEK f1 f2 f3 aJS
 go_enter Tryz.func132, Tryz.ntmps132
 go_wp2_with fail
 refine (aBS w w.heap.size _ n c l dU.out aRr hn).mono ?_
 rintro e w1 ⟨rfl, aF⟩
 rw [HY.out]
 have lT := aRp (HD0.out.next aF iS)
 clear aF HD0 HY dU
 have hk1 : ¬ ((k : Int) = -1) := by omega
 have hk2 : ((k : Int) == -1) = false := beq_eq_false_iff_ne.2 hk1
 have hwk : IntKind.i64.wrap ((k : Int) + 1) = (k : Int) + 1 := IntWalk.i64_in _ (by omega)
 go_wp2
 go_loopw [5, 6] (fun i j wr => ∃ p m : Nat, p ≤ n ∧ m < p ∧ i = .int .i64 (m : Int) ∧ j = .int .i64 (p : Int) ∧ Hid (qR w lo g n l p m wr)) (fun _ j _ => n - (intOf j).toNat)
 case atStart => exact ⟨k + 1, k, by omega, by omega, rfl, by go_num, lT⟩
 case round =>
  obtain ⟨p, m, hp, hm, rfl, rfl, HD⟩ := hrel; have hwm : IntKind.i64.wrap ((m : Int) + 1) = (m : Int) + 1 := IntWalk.i64_in _ (by omega)
  have hwp : IntKind.i64.wrap ((p : Int) + 1) = (p : Int) + 1 := IntWalk.i64_in _ (by omega)
  by_cases aM : p < n
  rotate_left
  ·obtain rfl : p = n := by omega
   obtain ⟨w2, aNB, hd2⟩ := HD.out.clear hm hlg; have vS := aRp hd2; have hmi : (m : Int) ≤ (p : Int) := by omega
   have hmc : ¬ (c = m) := by omega
   have aQQ : (m : Int) ≤ (c : Int) := by omega
   have aQM : (p : Int) ≤ (c : Int) := by omega
   have aRb := fun ty => aNB ty (c - m)
   clear aNB hd2 HD; go_wp2
   go_ret
   have HDp := vS.out; have e5 : gB (l.take p) = gB l := by rw [List.take_of_length_le (by have := HL.out; omega)]
   have nD := HDp.len; rw [e5] at nD; obtain ⟨cs, hg, q1, q2, _⟩ := HDp.row; refine ⟨some ⟨g, 0, none⟩, c, by rw [nD]; rfl, ?_, by omega, HDp.bel⟩
   rw [nD]; refine ⟨nD, fun t ht => ⟨g, 0, rfl, (aRq hg).1, ?_⟩⟩
   rw [e5] at q2; exact aI5 (q2 t ht) hg
  have hpi : (p : Int) < (n : Int) := by omega
  have hmi : (m : Int) < (n : Int) := by omega
  have Y2 : Hid ((l.getD p bP.zero).saved = true → qR w lo g n l (p + 1) m wr) := fun h => HD.out.skip (by have := HL.out; omega) h
  obtain ⟨cs, hg, q1, q2, q3⟩ := HD.out.row; have eZ : g < wr.heap.size := (aRq hg).1; obtain ⟨c0, c1, c2⟩ := (q3 p aRr aM).at hg; have HX : ∃ x, x = l.getD p bP.zero := ⟨_, rfl⟩; obtain ⟨x, hx⟩ := HX; rw [← hx] at c0 c1 c2 Y2; have HXE := aRp hx; clear hx hg q1 q2 q3
  go_upto_region 8 with fail
  have aV := (Below.refl wr.heap.size wr).alloc aRr (.cells #[.string x.item, .int .i64 x.qty, .bool x.saved] 39); have vS := aRp (HD.out.next aV iS); have nK := aRp (heap_alloc_new wr (.cells #[.string x.item, .int .i64 x.qty, .bool x.saved] 39)); have eB := aV.size; clear aV c0 c1 c2 Y2 HD; generalize wr.alloc (.cells #[.string x.item, .int .i64 x.qty, .bool x.saved] 39) = w2 at vS nK eB ⊢; have l9 : wr.heap.size < w2.heap.size := (aRq nK.out).1; generalize wr.heap.size = xb at nK eB l9 eZ ⊢; obtain ⟨d0, d1, d2⟩ := wZ nK.out
  go_wp2_with fail
  refine (aF6 x w2).mono ?_
  rintro e w3 ⟨rfl, aS⟩; have zA := aRp (vS.out.next aS iS); have oP := aRp ((aS.block _ l9).trans nK.out); have iD := aS.size; clear aS d0 d1 d2 vS nK
  by_cases hsv : x.saved = true
  ·have mP : Hid (qR w lo g n l (p + 1) m w3) := zA.out.skip (by have := HL.out; omega) (by rw [← HXE.out]; exact hsv)
   rw [hsv]; clear zA; go_wp2
   go_roundw
   case rel => exact ⟨p + 1, m, by omega, by omega, rfl, by go_num, mP⟩
   case measure => simp [intOf]; omega
  ·have tS : x.saved = false := Bool.eq_false_iff.2 hsv
   have mP : Hid (qR w lo g n l (p + 1) (m + 1) (aCo w3 g (m * 3) x)) := by
    have h := zA.out.put HL.out aM (by rw [← HXE.out]; exact tS) hlg
    rw [← HXE.out] at h; exact h
   obtain ⟨cs, hg, q1, q2, q3⟩ := zA.out.row; obtain ⟨d0, d1, d2⟩ := wZ oP.out; have hz : ∀ u, u < 3 → ∃ v, w3.cell? ⟨g, m * 3 + u, none⟩ = some v := fun u hu => ⟨_, (aRs hg).trans (Array.getElem?_eq_getElem (by omega))⟩
   obtain ⟨z0, e0⟩ := hz 0 (by omega)
   obtain ⟨z1, e1⟩ := hz 1 (by omega)
   obtain ⟨z2, e2⟩ := hz 2 (by omega)
   rw [Nat.add_zero] at e0; have t0 : w3.frozen? ⟨g, m * 3, none⟩ = false := aRt hg; have t1 : w3.frozen? ⟨g, m * 3 + 1, none⟩ = false := aRt hg; have t2 : w3.frozen? ⟨g, m * 3 + 2, none⟩ = false := aRt hg; rw [tS]; rw [tS] at d2; clear hz hg q1 q2 q3 zA
   go_upto_region 10 with fail
   have e9 : ((w3.setCell ⟨g, m * 3, none⟩ (.string x.item)).setCell ⟨g, m * 3 + 1, none⟩ (.int .i64 x.qty)).setCell ⟨g, m * 3 + 2, none⟩ (.bool false) = aCo w3 g (m * 3) x := by unfold aCo; rw [tS]
   rw [e9]; generalize aCo w3 g (m * 3) x = w4 at mP ⊢; clear d0 d1 d2 e0 e1 e2 t0 t1 t2 e9; go_wp2
   go_roundw
   case rel => exact ⟨p + 1, m + 1, by omega, by omega, by go_num, by go_num, mP⟩
   case measure => simp [intOf]; omega
theorem aFY (w : World) (lo : Nat) (a : Option Addr) (n c : Nat) (l : List bP) (aZ : w.ownsRow lo 39 3 (.slice a n c) n (eR l)) (iS : lo ≤ w.heap.size) (hn : n ≤ 1048576) :
  Calls Tryz.prog 132 #[.slice a n c, .func (.func 133) #[] #[]] w (aKP lo (gB l) w) := by
 by_cases h : kI l = -1
 ·exact aER w lo a n c l aZ iS hn h
 ·obtain ⟨k, hk⟩ : ∃ k : Nat, kI l = (k : Int) := by
   unfold kI at h ⊢
   split at h
   ·rename_i aM
    exact ⟨l.findIdx (·.saved), by rw [if_pos aM]⟩
   ·exact absurd rfl h
  have hl : l.length = n := by have := aZ.1; rw [rH] at this; omega
  have hkl := (aDg hk).1; rcases aZ.2 with ⟨e, e2⟩ | ⟨g, cap, aY, e, _⟩
  ·omega
  ·injection e with e1 _ e3
   subst e1; exact aDv w lo g n c k l aZ iS hn hk
end Go.Proofs.YthkagbnpcjidfaaGreatDoor
