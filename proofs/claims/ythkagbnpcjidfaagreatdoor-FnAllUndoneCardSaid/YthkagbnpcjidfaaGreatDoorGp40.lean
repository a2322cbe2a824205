/- Walks and mathematics that several claims share, part 40. -/
import Derived.Test.YthkagbnpcjidfaaGreatDoorGp39
import Derived.Test.YthkagbnpcjidfaaGreatDoorGp33
import Derived.Laws.CopyRow
import Derived.Lib.SliceRun
import Derived.Deep.Cut
import Derived.Lib.Hide
namespace Go.Proofs.YthkagbnpcjidfaaGreatDoor
set_option maxRecDepth 100000
open Go.RowKit
set_option linter.unusedVariables false
set_option linter.unusedSimpArgs false
theorem vH {w : World} {b : Nat} {v0 v1 v2 : Value} {T : TypeId} {fr : Nat × Nat} (h : w.heap[b]? = some (.cells #[v0, v1, v2] T fr)) : w.cell? ⟨b, 0, none⟩ = some v0 ∧ w.cell? ⟨b, 1, none⟩ = some v1 ∧ w.cell? ⟨b, 2, none⟩ = some v2 :=
 ⟨aPx h, aPx h, aPx h⟩
theorem aEa (x : bO) (w : World) : Calls Tryz.prog 133 #[.agg #[.string x.item, .int .i64 x.qty, .bool x.saved]] w fun e w' => e = .returned (.bool x.saved) ∧ Below w.heap.size w w' := by
 have HB := aPu ((Below.refl w.heap.size w).alloc aPw (.cells #[.string x.item, .int .i64 x.qty, .bool x.saved] 39))
 have HN := aPu (heap_alloc_new w (.cells #[.string x.item, .int .i64 x.qty, .bool x.saved] 39))
 go_enter Tryz.func133, Tryz.ntmps133
 go_upto_region 1 with fail
 generalize w.alloc (.cells #[.string x.item, .int .i64 x.qty, .bool x.saved] 39) = w1 at HB HN ⊢
 obtain ⟨c0, c1, c2⟩ := vH HN.out
 go_wp2
 go_ret
 exact ⟨rfl, HB.out⟩
def kC (l : List bO) : Int := if l.findIdx (·.saved) < l.length then ((l.findIdx (·.saved) : Nat) : Int) else -1
theorem aGX {l : List bO} {k : Nat} (hk : k < l.length) (h : ∀ j, j < k → (l.getD j bO.zero).saved = false) (hs : (l.getD k bO.zero).saved = true) : kC l = (k : Int) := by
 have e : l.findIdx (·.saved) = k := by
  rw [List.findIdx_eq hk]; refine ⟨?_, fun j hj => ?_⟩
  ·rw [List.getD_eq_getElem?_getD, List.getElem?_eq_getElem hk] at hs
   exact hs
  ·have := h j hj
   rw [List.getD_eq_getElem?_getD, List.getElem?_eq_getElem (by omega)] at this
   exact this
 unfold kC
 rw [e, if_pos hk]
theorem aD0 {l : List bO} (h : ∀ j, j < l.length → (l.getD j bO.zero).saved = false) : kC l = -1 := by
 unfold kC
 rw [if_neg]
 intro aK
 have hp := List.findIdx_getElem (w := aK)
 have := h _ aK
 rw [List.getD_eq_getElem?_getD, List.getElem?_eq_getElem aK] at this
 have h2 : (l[l.findIdx (·.saved)]).saved = false := this
 have h3 : (l[l.findIdx (·.saved)]).saved = true := hp
 rw [h2] at h3
 cases h3
set_option maxHeartbeats 20000000 in
theorem aAt (w : World) (B : Nat) (a : Option Addr) (n c : Nat) (l : List bO) (h : G1 w B a n l) (hB : B ≤ w.heap.size) (hn : n ≤ 1048576) :
  Calls Tryz.prog 152 #[.slice a n c, .func (.func 133) #[] #[]] w fun e w' => e = .returned (.int .i64 (kC l)) ∧ Below w.heap.size w w' := by
 have HO := aPu h
 have HL := aPu h.1
 clear h
 go_enter Tryz.func152, Tryz.ntmps152
 go_wp2
 go_loopw [8] (fun i wr => ∃ k : Nat, k ≤ n ∧ i = .int .i64 (k : Int) ∧ Hid (∀ j, j < k → (l.getD j bO.zero).saved = false) ∧ Hid (Below w.heap.size w wr)) (fun i _ => n - (intOf i).toNat)
 case atStart => exact ⟨0, Nat.zero_le _, rfl, fun j hj => absurd hj (by omega), Below.refl _ _⟩
 case round =>
  obtain ⟨k, hk, rfl, HF, HB⟩ := hrel
  by_cases aK : k < n
  rotate_left
  ·obtain rfl : k = n := by omega
   have HR : Hid (kC l = -1) := aD0 (fun j hj => HF.out j (by have := HL.out; omega))
   go_wp2
   go_ret
   exact ⟨by rw [HR.out]; rfl, HB.out⟩
  obtain ⟨b, off, rfl, hb, hc⟩ := HO.out.2 k aK; have hki : (k : Int) < (n : Int) := by omega
  obtain ⟨c0, c1, c2⟩ := hc.kept (HB.out.block b (by omega))
  have j7 : Hid ((l.getD k bO.zero).saved = false → ∀ j, j < k + 1 → (l.getD j bO.zero).saved = false) := fun h0 j hj => by
   rcases Nat.lt_or_ge j k with q | q
   ·exact HF.out j q
   ·obtain rfl : j = k := by omega
    exact h0
  have aJd : Hid ((l.getD k bO.zero).saved = true → kC l = (k : Int)) := fun h1 => aGX (by have := HL.out; omega) HF.out h1
  clear hc HF; generalize l.getD k bO.zero = x at c0 c1 c2 j7 aJd
  go_wp2_with fail
  refine (aEa x wr).mono ?_
  rintro e w2 ⟨rfl, aG⟩; have bP := aPu (HB.out.trans (aG.mono HB.out.size)); clear aG c0 c1 c2 HB; obtain ⟨xi, xq, xs⟩ := x
  dsimp only at j7 aJd ⊢
  cases xs
  ·go_wp2
   go_roundw
   case rel => exact ⟨k + 1, by omega, by go_num, j7.out rfl, bP⟩
   case measure => simp [intOf]; omega
  ·have HR := aPu (aJd.out rfl)
   go_wp2
   go_ret
   exact ⟨by rw [HR.out]; rfl, bP.out⟩
def gE (l : List bO) : List bO := l.filter fun x => !x.saved
theorem I5 {l : List bO} {j : Nat} (hj : j < l.length) : gE (l.take (j + 1)) = if (l.getD j bO.zero).saved = true then gE (l.take j) else gE (l.take j) ++ [l.getD j bO.zero] := by
 have e : l.take (j + 1) = l.take j ++ [l.getD j bO.zero] := by
  rw [List.take_succ_eq_append_getElem hj, List.getD_eq_getElem?_getD, List.getElem?_eq_getElem hj]
  rfl
 rw [e]
 unfold gE
 rw [List.filter_append]
 by_cases h : (l.getD j bO.zero).saved = true
 ·rw [if_pos h, List.filter_cons, if_neg (by rw [h]; decide)]
  simp
 ·have h' : (l.getD j bO.zero).saved = false := Bool.eq_false_iff.2 h
  rw [if_neg h, List.filter_cons, if_pos (by rw [h']; rfl)]
  rfl
theorem aGy (l : List bO) (j : Nat) : (gE (l.take j)).length ≤ j := by
 have h1 : (gE (l.take j)).length ≤ (l.take j).length := List.length_filter_le _ _
 rw [List.length_take] at h1
 omega
theorem aDU {l : List bO} {k : Nat} (hk : k ≤ l.length) (h : ∀ j, j < k → (l.getD j bO.zero).saved = false) : gE (l.take k) = l.take k := by
 unfold gE
 rw [List.filter_eq_self]
 intro x hx
 obtain ⟨j, hj, rfl⟩ := List.getElem_of_mem hx
 rw [List.length_take] at hj
 have := h j (by omega)
 rw [List.getD_eq_getElem?_getD, List.getElem?_eq_getElem (by omega)] at this
 rw [List.getElem_take]
 simpa using this
theorem aBP {l : List bO} {k : Nat} (h : kC l = (k : Int)) : k < l.length ∧ (∀ j, j < k → (l.getD j bO.zero).saved = false) ∧ (l.getD k bO.zero).saved = true := by
 unfold kC at h
 split at h
 ·rename_i aK
  have e : l.findIdx (·.saved) = k := by omega
  subst e; refine ⟨aK, fun j hj => ?_, ?_⟩
  ·have := List.not_of_lt_findIdx hj
   rw [List.getD_eq_getElem?_getD, List.getElem?_eq_getElem (by omega)]
   simpa using this
  ·have := List.findIdx_getElem (w := aK)
   rw [List.getD_eq_getElem?_getD, List.getElem?_eq_getElem aK]; exact this
 ·omega
theorem aGW {l : List bO} (h : kC l = -1) : gE l = l := by
 unfold kC at h
 split at h
 ·omega
 ·rename_i hn
  unfold gE; rw [List.filter_eq_self]
  intro x hx
  cases hs : x.saved
  ·rfl
  ·exact absurd (List.findIdx_lt_length_of_exists ⟨x, hx, hs⟩) hn
theorem aDY {A : List bO} {x : bO} {t : Nat} (h : t < A.length) : (A ++ [x]).getD t bO.zero = A.getD t bO.zero := by
 rw [List.getD_eq_getElem?_getD, List.getElem?_append_left h, ← List.getD_eq_getElem?_getD]
theorem aDZ {A : List bO} {x : bO} {t : Nat} (h : A.length = t) : (A ++ [x]).getD t bO.zero = x := by
 rw [List.getD_eq_getElem?_getD, List.getElem?_append_right (by omega), h, Nat.sub_self]
 rfl
structure pU (w : World) (lo g n : Nat) (l : List bO) (j m : Nat) (wr : World) : Prop where
 bel : Below lo w wr
 row : ∃ cs : Array Value, wr.heap[g]? = some (.cells cs 39 (0, 0)) ∧ n * 3 ≤ cs.size ∧ (∀ t, t < m → tS cs (t * 3) ((gE (l.take j)).getD t bO.zero)) ∧ ∀ t, j ≤ t → t < n → tS cs (t * 3) (l.getD t bO.zero)
 len : (gE (l.take j)).length = m
theorem pU.next {w : World} {lo g n : Nat} {l : List bO} {j m : Nat} {wr w2 : World} (h : pU w lo g n l j m wr) (hb : Below wr.heap.size wr w2) (iQ : lo ≤ w.heap.size) : pU w lo g n l j m w2 := by
 obtain ⟨cs, hg, r⟩ := h.row
 exact ⟨h.bel.trans (hb.mono (Nat.le_trans iQ h.bel.size)), ⟨cs, (hb.block _ (aPv hg).1).trans hg, r⟩, h.len⟩
theorem pU.skip {w : World} {lo g n : Nat} {l : List bO} {j m : Nat} {wr : World} (h : pU w lo g n l j m wr) (hj : j < l.length) (hs : (l.getD j bO.zero).saved = true) : pU w lo g n l (j + 1) m wr := by
 obtain ⟨cs, hg, h1, h2, h3⟩ := h.row
 have e : gE (l.take (j + 1)) = gE (l.take j) := by rw [I5 hj, if_pos hs]
 exact ⟨h.bel, ⟨cs, hg, h1, by rw [e]; exact h2, fun t a b => h3 t (by omega) b⟩, by rw [e]; exact h.len⟩
def aAK (w : World) (g o : Nat) (x : bO) : World := ((w.setCell ⟨g, o, none⟩ (.string x.item)).setCell ⟨g, o + 1, none⟩ (.int .i64 x.qty)).setCell ⟨g, o + 2, none⟩ (.bool x.saved)
theorem aHn {w : World} {g o : Nat} {x : bO} {cs : Array Value} {T : TypeId} (h : w.heap[g]? = some (.cells cs T (0, 0))) : (aAK w g o x).heap[g]? = some (.cells (((cs.setIfInBounds o (.string x.item)).setIfInBounds (o + 1) (.int .i64 x.qty)).setIfInBounds (o + 2) (.bool x.saved)) T (0, 0)) :=
 heap_setCell_same _ _ _ _ _ _ (heap_setCell_same _ _ _ _ _ _ (heap_setCell_same _ _ _ _ _ _ h))
theorem aIK {cs : Array Value} {o : Nat} {x : bO} (h : o + 3 ≤ cs.size) : tS (((cs.setIfInBounds o (.string x.item)).setIfInBounds (o + 1) (.int .i64 x.qty)).setIfInBounds (o + 2) (.bool x.saved)) o x := by
 refine ⟨?_, ?_, ?_⟩
 ·rw [Array.getElem?_setIfInBounds_ne (by omega), Array.getElem?_setIfInBounds_ne (by omega), Array.getElem?_setIfInBounds_self_of_lt (by omega)]
 ·rw [Array.getElem?_setIfInBounds_ne (by omega), Array.getElem?_setIfInBounds_self_of_lt (by simp; omega)]
 ·rw [Array.getElem?_setIfInBounds_self_of_lt (by simp; omega)]
theorem aDo {cs : Array Value} {o p : Nat} {x y : bO} (h : tS cs p y) (hp : p + 3 ≤ o ∨ o + 3 ≤ p) : tS (((cs.setIfInBounds o (.string x.item)).setIfInBounds (o + 1) (.int .i64 x.qty)).setIfInBounds (o + 2) (.bool x.saved)) p y := by
 obtain ⟨h0, h1, h2⟩ := h
 refine ⟨?_, ?_, ?_⟩ <;> rw [Array.getElem?_setIfInBounds_ne (by omega), Array.getElem?_setIfInBounds_ne (by omega), Array.getElem?_setIfInBounds_ne (by omega)] <;> assumption
theorem pU.put {w : World} {lo g n : Nat} {l : List bO} {j m : Nat} {wr : World} (h : pU w lo g n l j m wr) (hl : l.length = n) (hj : j < n) (hs : (l.getD j bO.zero).saved = false) (iQ : lo ≤ g) : pU w lo g n l (j + 1) (m + 1) (aAK wr g (m * 3) (l.getD j bO.zero)) := by
 obtain ⟨cs, hg, h1, h2, h3⟩ := h.row
 have hm : m ≤ j := by rw [← h.len]; exact aGy l j
 have e : gE (l.take (j + 1)) = gE (l.take j) ++ [l.getD j bO.zero] := by rw [I5 (by omega), if_neg (by rw [hs]; decide)]
 refine ⟨((h.bel.setCell (p := ⟨g, m * 3, none⟩) iQ _).setCell (p := ⟨g, m * 3 + 1, none⟩) iQ _).setCell (p := ⟨g, m * 3 + 2, none⟩) iQ _, ⟨_, aHn hg, by simpa using h1, fun t ht => ?_, fun t a b => aDo (h3 t (by omega) b) (by omega)⟩, by rw [e, List.length_append, h.len]; rfl⟩
 rw [e]
 rcases Nat.lt_or_ge t m with q | q
 ·rw [aDY (by rw [h.len]; exact q)]
  exact aDo (h2 t q) (by omega)
 ·obtain rfl : t = m := by omega
  rw [aDZ h.len]; exact aIK (by omega)
theorem aK6 (w : World) : (zeroValue 39).run Tryz.prog w = .ok (.agg #[.string ⟨#[]⟩, .int .i64 0, .bool false]) w := by kernel_rfl
theorem aEC : ∀ (n : Nat), ∀ v ∈ (Builtin.zeroCells (Value.agg #[.string ⟨#[]⟩, .int .i64 0, .bool false]).cells n).toList, v.oneCell' = true := by
 intro n v hv
 rw [Array.mem_toList_iff] at hv
 unfold Builtin.zeroCells at hv
 obtain ⟨i, hi, rfl⟩ := Array.mem_map.1 hv
 show ((#[Value.string ⟨#[]⟩, .int .i64 0, .bool false] : Array Value)[i % 3]!).oneCell' = true
 have : i % 3 < 3 := Nat.mod_lt _ (by omega)
 match i % 3, this with
 | 0, _ => rfl
 | 1, _ => rfl
 | 2, _ => rfl
theorem pU.clear {w : World} {lo g n : Nat} {l : List bO} {m : Nat} {wr : World} (h : pU w lo g n l n m wr) (hm : m < n) (iQ : lo ≤ g) : ∃ w2, (∀ ty c, (Builtin.clear_ #[42] ty #[.slice (some ⟨g, m * 3, none⟩) (n - m) c]).run Tryz.prog wr = .ok (.tuple #[]) w2) ∧ pU w lo g n l n m w2 := by
 obtain ⟨cs, hg, h1, h2, h3⟩ := h.row
 obtain ⟨Z, hZ⟩ : ∃ Z, Z = (Builtin.zeroCells (Value.agg #[.string ⟨#[]⟩, .int .i64 0, .bool false]).cells (n - m)).toList := ⟨_, rfl⟩
 have E9 : Z.length = (n - m) * 3 := by
  rw [hZ, Array.length_toList, size_zeroCells]
  rfl
 have eB := run_storeCells_at (P := Tryz.prog) g (m * 3) 39 Z 0 cs wr hg (by rw [E9]; omega) (by rw [hZ]; exact aEC _)
 refine ⟨wr.setRow g (cs.toList.take (m * 3 + 0) ++ Z ++ cs.toList.drop (m * 3 + 0 + Z.length)).toArray, fun ty c => ?_, ?_⟩
 ·obtain ⟨k, hk⟩ : ∃ k, n - m = k + 1 := ⟨n - m - 1, by omega⟩
  rw [hk] at hZ ⊢; have jB := hZ.symm; simp [Builtin.clear_, run_underlying Tryz.underlying42, aK6, jB, eB]
 ·have aNO : ∀ (cs' : Array Value) k, k ≠ g → (wr.setRow g cs').heap[k]? = wr.heap[k]? := fun cs' k hk => setRow_other wr g k _ hk
  refine ⟨h.bel.trans ⟨rfl, rfl, rfl, Nat.le_of_eq (by show wr.heap.size = (wr.heap.modify g _).size; rw [Array.size_modify]), fun k hk => aNO _ k (by omega)⟩, ⟨_, setRow_heap wr g cs _ _ _ hg, ?_, fun t ht => ?_, fun t a b => absurd b (by omega)⟩, h.len⟩
  ·simp only [List.size_toArray, List.length_append, List.length_take, List.length_drop, E9, Array.length_toList]
   omega
  ·obtain ⟨a0, a1, a2⟩ := h2 t ht
   have key : ∀ u, u < 3 → (((cs.toList.take (m * 3 + 0)) ++ Z ++ cs.toList.drop (m * 3 + 0 + (Z).length)).toArray)[t * 3 + u]? = cs[t * 3 + u]? := fun u hu => by
    rw [List.getElem?_toArray, List.append_assoc, List.getElem?_append_left (by rw [List.length_take, Array.length_toList]; omega), List.getElem?_take_of_lt (by omega), Array.getElem?_toList]
   exact ⟨(key 0 (by omega)).trans a0, (key 1 (by omega)).trans a1, (key 2 (by omega)).trans a2⟩
def aJi (lo : Nat) (F : List bO) (w : World) (e : Ending) (w' : World) : Prop := ∃ a c, e = .returned (.slice a F.length c) ∧ G1 w' w'.heap.size a F.length F ∧ F.length ≤ c ∧ Below lo w w'
theorem aHg {cs : Array Value} {p : Nat} {x : bO} (h : tS cs p x) {w : World} {g : Nat} {T : TypeId} (hg : w.heap[g]? = some (.cells cs T (0, 0))) : aA6 w g (0 + p) x := by
 rw [Nat.zero_add]
 exact h.at hg
theorem aBE {w : World} {lo : Nat} {a : Option Addr} {n c : Nat} {l : List bO} (h : w.ownsRow lo 39 3 (.slice a n c) n (eQ l)) : G1 w w.heap.size a n l := by
 obtain ⟨a', c', e, aY⟩ := zX h aPw
 injection e with e1 _ _
 subst e1
 exact aY.rows
theorem aDb (w : World) (lo : Nat) (a : Option Addr) (n c : Nat) (l : List bO) (aY : w.ownsRow lo 39 3 (.slice a n c) n (eQ l)) (iQ : lo ≤ w.heap.size) (hn : n ≤ 1048576) (iP : kC l = -1) :
  Calls Tryz.prog 132 #[.slice a n c, .func (.func 133) #[] #[]] w (aJi lo (gE l) w) := by
 have hl : l.length = n := by have := aY.1; rw [qR] at this; omega
 have HK := aPu (aGW iP)
 have aC3 := aBE aY
 have dO := aPu aC3
 have oQ := aPu (gB aY).1
 have HL := aPu hl
 clear aY hl aC3
 go_enter Tryz.func132, Tryz.ntmps132
 go_wp2_with fail
 refine (aAt w w.heap.size a n c l dO.out aPw hn).mono ?_
 rintro e w1 ⟨rfl, aE⟩
 rw [iP]
 have HB := aPu aE
 clear aE iP
 go_wp2
 go_ret
 refine ⟨a, c, by rw [HK.out, HL.out]; rfl, ?_, by rw [HK.out, HL.out]; exact oQ.out, HB.out.mono iQ⟩
 rw [HK.out, HL.out]
 exact (dO.out.below HB.out aPw).more HB.out.size
set_option maxHeartbeats 40000000 in
theorem aB7 (w : World) (lo g n c k : Nat) (l : List bO) (aY : w.ownsRow lo 39 3 (.slice (some ⟨g, 0, none⟩) n c) n (eQ l)) (iQ : lo ≤ w.heap.size) (hn : n ≤ 1048576) (aH5 : kC l = (k : Int)) :
  Calls Tryz.prog 132 #[.slice (some ⟨g, 0, none⟩) n c, .func (.func 133) #[] #[]] w (aJi lo (gE l) w) := by
 have hl : l.length = n := by have := aY.1; rw [qR] at this; omega
 obtain ⟨f1, f2, f3⟩ := aBP aH5
 have jO := (gB aY).1
 have F2 := (gB aY).2.1
 unfold C3 maxLen at F2
 have aC3 := aBE aY
 have dO := aPu aC3
 have hkn : k < n := by omega
 obtain ⟨hlg, jM⟩ := aY.lt g rfl
 have HD0 : Hid (pU w lo g n l (k + 1) k w) := by
  rcases aY.2 with ⟨e, _⟩ | ⟨g', fY, aV, e, hg', hc, _, _, cP, ht⟩
  ·cases e
  ·injection e with e1 _ e3
   injection e1 with e1; injection e1 with e1; subst e1 e3; have hin : ∀ t, t < n → tS aV (t * 3) (l.getD t bO.zero) := fun t ht' => by
    have key : ∀ u, u < 3 → aV[t * 3 + u]? = (kF (l.getD t bO.zero))[u]? := fun u hu => by
     rw [← I0 l t u (by omega) hu, ← ht, List.getElem?_take_of_lt (by omega), Array.getElem?_toList]
    exact ⟨key 0 (by omega), key 1 (by omega), key 2 (by omega)⟩
   have e2 : gE (l.take (k + 1)) = l.take k := by rw [I5 (by omega), if_pos f3, aDU (by omega) f2]
   refine ⟨Below.refl _ _, ⟨aV, hc, by omega, fun t ht' => ?_, fun t _ b => hin t b⟩, by rw [e2, List.length_take]; omega⟩
   rw [e2, List.getD_eq_getElem?_getD, List.getElem?_take_of_lt ht', ← List.getD_eq_getElem?_getD]; exact hin t (by omega)
 have HL := aPu hl
 have HY := aPu aH5
 clear aY hl aC3 f1 f2 f3 aH5
 go_enter Tryz.func132, Tryz.ntmps132
 go_wp2_with fail
 refine (aAt w w.heap.size _ n c l dO.out aPw hn).mono ?_
 rintro e w1 ⟨rfl, aE⟩
 rw [HY.out]
 have pT := aPu (HD0.out.next aE iQ)
 clear aE HD0 HY dO
 have hk1 : ¬ ((k : Int) = -1) := by omega
 have hk2 : ((k : Int) == -1) = false := beq_eq_false_iff_ne.2 hk1
 have hwk : IntKind.i64.wrap ((k : Int) + 1) = (k : Int) + 1 := IntWalk.i64_in _ (by omega)
 go_wp2
 go_loopw [5, 6] (fun i j wr => ∃ p m : Nat, p ≤ n ∧ m < p ∧ i = .int .i64 (m : Int) ∧ j = .int .i64 (p : Int) ∧ Hid (pU w lo g n l p m wr)) (fun _ j _ => n - (intOf j).toNat)
 case atStart => exact ⟨k + 1, k, by omega, by omega, rfl, by go_num, pT⟩
 case round =>
  obtain ⟨p, m, hp, hm, rfl, rfl, HD⟩ := hrel; have hwm : IntKind.i64.wrap ((m : Int) + 1) = (m : Int) + 1 := IntWalk.i64_in _ (by omega)
  have hwp : IntKind.i64.wrap ((p : Int) + 1) = (p : Int) + 1 := IntWalk.i64_in _ (by omega)
  by_cases aK : p < n
  rotate_left
  ·obtain rfl : p = n := by omega
   obtain ⟨w2, aLy, hd2⟩ := HD.out.clear hm hlg; have zL := aPu hd2; have hmi : (m : Int) ≤ (p : Int) := by omega
   have hmc : ¬ (c = m) := by omega
   have aOX : (m : Int) ≤ (c : Int) := by omega
   have aOQ : (p : Int) ≤ (c : Int) := by omega
   have aPf := fun ty => aLy ty (c - m)
   clear aLy hd2 HD; go_wp2
   go_ret
   have HDp := zL.out; have e5 : gE (l.take p) = gE l := by rw [List.take_of_length_le (by have := HL.out; omega)]
   have kU := HDp.len; rw [e5] at kU; obtain ⟨cs, hg, q1, q2, _⟩ := HDp.row; refine ⟨some ⟨g, 0, none⟩, c, by rw [kU]; rfl, ?_, by omega, HDp.bel⟩
   rw [kU]; refine ⟨kU, fun t ht => ⟨g, 0, rfl, (aPv hg).1, ?_⟩⟩
   rw [e5] at q2; exact aHg (q2 t ht) hg
  have hpi : (p : Int) < (n : Int) := by omega
  have hmi : (m : Int) < (n : Int) := by omega
  have j7 : Hid ((l.getD p bO.zero).saved = true → pU w lo g n l (p + 1) m wr) := fun h => HD.out.skip (by have := HL.out; omega) h
  obtain ⟨cs, hg, q1, q2, q3⟩ := HD.out.row; have iR : g < wr.heap.size := (aPv hg).1; obtain ⟨c0, c1, c2⟩ := (q3 p aPw aK).at hg; have HX : ∃ x, x = l.getD p bO.zero := ⟨_, rfl⟩; obtain ⟨x, hx⟩ := HX; rw [← hx] at c0 c1 c2 j7; have HXE := aPu hx; clear hx hg q1 q2 q3
  go_upto_region 8 with fail
  have aW := (Below.refl wr.heap.size wr).alloc aPw (.cells #[.string x.item, .int .i64 x.qty, .bool x.saved] 39); have zL := aPu (HD.out.next aW iQ); have mN := aPu (heap_alloc_new wr (.cells #[.string x.item, .int .i64 x.qty, .bool x.saved] 39)); have dS := aW.size; clear aW c0 c1 c2 j7 HD; generalize wr.alloc (.cells #[.string x.item, .int .i64 x.qty, .bool x.saved] 39) = w2 at zL mN dS ⊢; have S0 : wr.heap.size < w2.heap.size := (aPv mN.out).1; generalize wr.heap.size = xb at mN dS S0 iR ⊢; obtain ⟨d0, d1, d2⟩ := vH mN.out
  go_wp2_with fail
  refine (aEa x w2).mono ?_
  rintro e w3 ⟨rfl, aR⟩; have j8 := aPu (zL.out.next aR iQ); have nX := aPu ((aR.block _ S0).trans mN.out); have hU := aR.size; clear aR d0 d1 d2 zL mN
  by_cases hsv : x.saved = true
  ·have rD : Hid (pU w lo g n l (p + 1) m w3) := j8.out.skip (by have := HL.out; omega) (by rw [← HXE.out]; exact hsv)
   rw [hsv]; clear j8; go_wp2
   go_roundw
   case rel => exact ⟨p + 1, m, by omega, by omega, rfl, by go_num, rD⟩
   case measure => simp [intOf]; omega
  ·have tC : x.saved = false := Bool.eq_false_iff.2 hsv
   have rD : Hid (pU w lo g n l (p + 1) (m + 1) (aAK w3 g (m * 3) x)) := by
    have h := j8.out.put HL.out aK (by rw [← HXE.out]; exact tC) hlg
    rw [← HXE.out] at h; exact h
   obtain ⟨cs, hg, q1, q2, q3⟩ := j8.out.row; obtain ⟨d0, d1, d2⟩ := vH nX.out; have hz : ∀ u, u < 3 → ∃ v, w3.cell? ⟨g, m * 3 + u, none⟩ = some v := fun u hu => ⟨_, (aPx hg).trans (Array.getElem?_eq_getElem (by omega))⟩
   obtain ⟨z0, e0⟩ := hz 0 (by omega)
   obtain ⟨z1, e1⟩ := hz 1 (by omega)
   obtain ⟨z2, e2⟩ := hz 2 (by omega)
   rw [Nat.add_zero] at e0; have t0 : w3.frozen? ⟨g, m * 3, none⟩ = false := aPy hg; have t1 : w3.frozen? ⟨g, m * 3 + 1, none⟩ = false := aPy hg; have t2 : w3.frozen? ⟨g, m * 3 + 2, none⟩ = false := aPy hg; rw [tC]; rw [tC] at d2; clear hz hg q1 q2 q3 j8
   go_upto_region 10 with fail
   have e9 : ((w3.setCell ⟨g, m * 3, none⟩ (.string x.item)).setCell ⟨g, m * 3 + 1, none⟩ (.int .i64 x.qty)).setCell ⟨g, m * 3 + 2, none⟩ (.bool false) = aAK w3 g (m * 3) x := by unfold aAK; rw [tC]
   rw [e9]; generalize aAK w3 g (m * 3) x = w4 at rD ⊢; clear d0 d1 d2 e0 e1 e2 t0 t1 t2 e9; go_wp2
   go_roundw
   case rel => exact ⟨p + 1, m + 1, by omega, by omega, by go_num, by go_num, rD⟩
   case measure => simp [intOf]; omega
theorem aD1 (w : World) (lo : Nat) (a : Option Addr) (n c : Nat) (l : List bO) (aY : w.ownsRow lo 39 3 (.slice a n c) n (eQ l)) (iQ : lo ≤ w.heap.size) (hn : n ≤ 1048576) :
  Calls Tryz.prog 132 #[.slice a n c, .func (.func 133) #[] #[]] w (aJi lo (gE l) w) := by
 by_cases h : kC l = -1
 ·exact aDb w lo a n c l aY iQ hn h
 ·obtain ⟨k, hk⟩ : ∃ k : Nat, kC l = (k : Int) := by
   unfold kC at h ⊢
   split at h
   ·rename_i aK
    exact ⟨l.findIdx (·.saved), by rw [if_pos aK]⟩
   ·exact absurd rfl h
  have hl : l.length = n := by have := aY.1; rw [qR] at this; omega
  have hkl := (aBP hk).1; rcases aY.2 with ⟨e, e2⟩ | ⟨g, cap, aV, e, _⟩
  ·omega
  ·injection e with e1 _ e3
   subst e1; exact aB7 w lo g n c k l aY iQ hn hk
end Go.Proofs.YthkagbnpcjidfaaGreatDoor
