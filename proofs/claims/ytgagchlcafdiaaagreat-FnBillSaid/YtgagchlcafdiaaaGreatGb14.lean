/- Walks and mathematics that several claims share, part 14. -/
import Derived.Test.YtgagchlcafdiaaaGreatGb11
import Derived.Test.YtgagchlcafdiaaaGreatGb12
import Derived.Test.YtgagchlcafdiaaaGreatGb13
import Derived.Test.YtgagchlcafdiaaaGreatGb9
import Derived.Deep.Cut
import Derived.Deep.AppendLies
import Derived.Lib.SliceRun
import Derived.Lib.MinMax
import Derived.Deep.RegionHeld3
import Derived.Test.YtgagchlcafdiaaaGreatGbA
namespace Go.Proofs.YtgagchlcafdiaaaGreat
set_option maxRecDepth 100000
open Go.RowKit
set_option linter.unusedVariables false
set_option linter.unusedSimpArgs false

def opRow (o : OpV) : List Value := [.int .i64 o.dev, .int .i64 o.seq, .int .i64 o.stamp, .int .i64 o.kind, .string o.item, .int .i64 o.qty, .int .i64 o.level, .int .i64 o.undos]
def opCells : List OpV → List Value
 | [] => []
 | x :: l => opRow x ++ opCells l
theorem opCells_len : ∀ l : List OpV, (opCells l).length = l.length * 8
 | [] => rfl
 | x :: l => by
  show (opRow x ++ opCells l).length = _
  rw [List.length_append, opCells_len l, List.length_cons]
  show 8 + _ = _
  omega
theorem opCells_snoc (x : OpV) : ∀ l : List OpV, opCells (l ++ [x]) = opCells l ++ opRow x
 | [] => by show opRow x ++ [] = [] ++ opRow x; rw [List.append_nil, List.nil_append]
 | y :: l => by
  show opRow y ++ opCells (l ++ [x]) = (opRow y ++ opCells l) ++ opRow x
  rw [opCells_snoc x l, List.append_assoc]
theorem opCells_at : ∀ (l : List OpV) (i u : Nat), i < l.length → u < 8 → (opCells l)[i * 8 + u]? = (opRow (l.getD i OpV.zero))[u]?
 | x :: l, 0, u, _, hu => by
  show (opRow x ++ opCells l)[0 * 8 + u]? = (opRow x)[u]?
  rw [Nat.zero_mul, Nat.zero_add, List.getElem?_append_left (by show u < 8; exact hu)]
 | x :: l, i + 1, u, hi, hu => by
  show (opRow x ++ opCells l)[(i + 1) * 8 + u]? = (opRow (l.getD i OpV.zero))[u]?
  rw [List.getElem?_append_right (by show 8 ≤ _; omega)]
  have e : (i + 1) * 8 + u - (opRow x).length = i * 8 + u := by show _ - 8 = _; omega
  rw [e, opCells_at l i u (by simpa using hi) hu]
theorem opCells_one : ∀ l : List OpV, ∀ u ∈ opCells l, u.oneCell' = true
 | [], u, h => by cases h
 | x :: l, u, h => by
  rcases List.mem_append.1 h with h1 | h1
  ·simp only [opRow, List.mem_cons, List.not_mem_nil, or_false] at h1
   rcases h1 with rfl | rfl | rfl | rfl | rfl | rfl | rfl | rfl <;> rfl
  ·exact opCells_one l u h1
theorem own_of_cells {w : World} {base hi : Nat} {a : Option Addr} {n cap : Nat} {l : List OpV} (h : w.ownsRow base 84 8 (.slice a n cap) n (opCells l)) (hh : w.heap.size ≤ hi) : OwnOps w base hi a n l := by
 have hl : l.length = n := by have := h.1; rw [opCells_len] at this; omega
 refine ⟨hl, fun hn => ?_⟩
 rcases h.2 with ⟨e, _⟩ | ⟨g, c, cur, e, hb, hg, hnc, _, hs, ht⟩
 ·cases e; omega
 ·injection e with e1 e2 e3
  have key : ∀ i u, i < n → u < 8 → cur[0 + i * 8 + u]? = (opRow (l.getD i OpV.zero))[u]? := fun i u hi' hu => by
   have h2 : (cur.toList.take (n * 8))[i * 8 + u]? = (opCells l)[i * 8 + u]? := by rw [ht]
   rw [List.getElem?_take_of_lt (by omega), opCells_at l i u (by omega) hu] at h2
   rw [Nat.zero_add, ← Array.getElem?_toList, h2]
  refine ⟨g, 0, cur, e1, hb, by have := (Array.getElem?_eq_some_iff.1 hg).1; omega, hg, by rw [hs]; have : n * 8 ≤ c * 8 := by omega
                                                                                           omega, fun i hi' => ?_⟩
  exact ⟨key i 0 hi' (by omega), key i 1 hi' (by omega), key i 2 hi' (by omega), key i 3 hi' (by omega), key i 4 hi' (by omega), key i 5 hi' (by omega), key i 6 hi' (by omega), key i 7 hi' (by omega)⟩
/-- What stands in a slice of operations, cell by cell, as 'append' asks. -/
theorem cells_of_ops {w : World} {B b off n : Nat} {l : List OpV} (h : Ops w B (some ⟨b, off, none⟩) n l) : ∀ j u, (opCells l)[j]? = some u → w.cell? ((⟨b, off, none⟩ : Addr).add j) = some u := by
 intro j u hj
 have hjl : j < l.length * 8 := by
  rcases Nat.lt_or_ge j (l.length * 8) with h' | h'
  ·exact h'
  ·rw [List.getElem?_eq_none (by rw [opCells_len]; exact h')] at hj; cases hj
 have hd : j = (j / 8) * 8 + j % 8 := by omega
 have hi : j / 8 < l.length := by omega
 obtain ⟨b', off', e, _, ho⟩ := h.2 (j / 8) (by rw [← h.1]; exact hi)
 injection e with e
 injection e with e1 e2
 subst e1 e2
 rw [hd, opCells_at l _ _ hi (by omega)] at hj
 rw [add_at]
 have hm : j % 8 < 8 := by omega
 obtain ⟨h0, h1, h2, h3, h4, h5, h6, h7⟩ := ho
 have hj8 : off + j = off + j / 8 * 8 + j % 8 := by omega
 rw [hj8]
 generalize j % 8 = m at hj hm ⊢
 obtain rfl | rfl | rfl | rfl | rfl | rfl | rfl | rfl : m = 0 ∨ m = 1 ∨ m = 2 ∨ m = 3 ∨ m = 4 ∨ m = 5 ∨ m = 6 ∨ m = 7 := by omega
 ·cases hj
  exact h0
 ·cases hj
  exact h1
 ·cases hj
  exact h2
 ·cases hj
  exact h3
 ·cases hj
  exact h4
 ·cases hj
  exact h5
 ·cases hj
  exact h6
 ·cases hj
  exact h7
theorem strClone (s : ByteArray) (h : s.size ≤ 1048576) (w : World) : Calls Tryz.prog 48 #[.string s] w fun e w' => e = .returned (.string s) ∧ Below w.heap.size w w' := by
 go_enter Tryz.func48, Tryz.ntmps48
 go_wp2_with fail
 refine (Tryz.stringslite_Clone s _ (by omega)).mono ?_
 rintro e w1 ⟨rfl, hb1⟩
 go_wp2
 go_ret
 exact ⟨rfl, hb1⟩
/-- A block of the call's own that holds n operations. -/
def CS (g off n : Nat) (l : List OpV) (w wr : World) : Prop := Below w.heap.size w wr ∧ ∃ cs : Array Value, wr.heap[g]? = some (.cells cs 84 (0, 0)) ∧ off + n * 8 ≤ cs.size ∧ ∀ i, i < n → OpIn cs (off + i * 8) (l.getD i OpV.zero)
theorem CS.step {g off n : Nat} {l : List OpV} {w wr w1 : World} (h : CS g off n l w wr) (hb : Below wr.heap.size wr w1) : CS g off n l w w1 := by
 obtain ⟨h1, cs, hg, r⟩ := h
 exact ⟨h1.trans (hb.mono h1.size), cs, (hb.block _ (Array.getElem?_eq_some_iff.1 hg).1).trans hg, r⟩
theorem CS.put {g off n k : Nat} {l : List OpV} {w wr : World} (h : CS g off n l w wr) (hg0 : w.heap.size ≤ g) (hk : k < n) : CS g off n l w (wr.setCell ⟨g, off + k * 8 + 4, none⟩ (.string (l.getD k OpV.zero).item)) := by
 obtain ⟨h1, cs, hg, hs, hc⟩ := h
 refine ⟨h1.setCell (p := ⟨g, off + k * 8 + 4, none⟩) hg0 _, cs.setIfInBounds (off + k * 8 + 4) (.string (l.getD k OpV.zero).item), heap_setCell_same _ _ _ _ _ _ hg, by simpa using hs, fun i hi => ?_⟩
 by_cases e : i = k
 ·subst e
  obtain ⟨h0, h1, h2, h3, h4, h5, h6, h7⟩ := hc i hi
  exact ⟨(Array.getElem?_setIfInBounds_ne (by omega)).trans h0, (Array.getElem?_setIfInBounds_ne (by omega)).trans h1, (Array.getElem?_setIfInBounds_ne (by omega)).trans h2, (Array.getElem?_setIfInBounds_ne (by omega)).trans h3, Array.getElem?_setIfInBounds_self_of_lt (by omega), (Array.getElem?_setIfInBounds_ne (by omega)).trans h5, (Array.getElem?_setIfInBounds_ne (by omega)).trans h6, (Array.getElem?_setIfInBounds_ne (by omega)).trans h7⟩
 ·exact opIn_far (hc i hi) (by omega)
/-- A slice whose row, if it has elements, is a block of its own between lo and hi, and holds xs. -/
def Own (w : World) (lo hi : Nat) (a : Option Addr) (n : Nat) (xs : List Int) : Prop :=
 xs.length = n ∧ (0 < n → ∃ g cur, a = some ⟨g, 0, none⟩ ∧ lo ≤ g ∧ g < hi ∧ w.heap[g]? = some (.cells cur 2 (0, 0)) ∧ ∀ i, i < n → cur[i]? = some (.int .i64 (xs.getD i 0)))
theorem Own.ints {w : World} {lo hi : Nat} {a : Option Addr} {n : Nat} {xs : List Int} (h : Own w lo hi a n xs) : Ints w hi a n xs :=
 ⟨h.1, fun i hi' => by
  obtain ⟨g, cur, e, _, hg2, hg, hc⟩ := h.2 (by omega)
  exact ⟨g, 0, e, hg2, by rw [cell_of_row _ _ _ _ _ _ hg, Nat.zero_add]; exact hc i hi'⟩⟩
theorem Own.kept {w w' : World} {lo hi : Nat} {a : Option Addr} {n : Nat} {xs : List Int} (h : Own w lo hi a n xs) (hk : ∀ j, lo ≤ j → j < hi → w'.heap[j]? = w.heap[j]?) : Own w' lo hi a n xs :=
 ⟨h.1, fun hn => by
  obtain ⟨g, cur, e, h1, h2, hg, hc⟩ := h.2 hn
  exact ⟨g, cur, e, h1, h2, (hk g h1 h2).trans hg, hc⟩⟩
theorem Own.below {w w' : World} {lo hi B : Nat} {a : Option Addr} {n : Nat} {xs : List Int} (h : Own w lo hi a n xs) (hb : Below B w w') (hB : hi ≤ B) : Own w' lo hi a n xs :=
 h.kept fun j _ h2 => hb.block j (by omega)
theorem Own.more {w : World} {lo hi lo' hi' : Nat} {a : Option Addr} {n : Nat} {xs : List Int} (h : Own w lo hi a n xs) (h1 : lo' ≤ lo) (h2 : hi ≤ hi') : Own w lo' hi' a n xs :=
 ⟨h.1, fun hn => by
  obtain ⟨g, cur, e, a1, a2, r⟩ := h.2 hn
  exact ⟨g, cur, e, by omega, by omega, r⟩⟩
theorem own_fresh {w w' : World} {xs : List Int} {hi : Nat} (hg : w'.heap[w.heap.size]? = some (.cells (xs.map (Value.int .i64)).toArray 2 (0, 0))) (hh : w.heap.size < hi) : Own w' w.heap.size hi (some ⟨w.heap.size, 0, none⟩) xs.length xs :=
 ⟨rfl, fun _ => ⟨_, _, rfl, Nat.le_refl _, hh, hg, fun i hi' => by simp [List.getElem?_eq_getElem hi']⟩⟩
theorem own_of_row {w : World} {base hi : Nat} {a : Option Addr} {n cap : Nat} {xs : List Int} (h : w.ownsRow base 2 1 (.slice a n cap) n (xs.map (Value.int .i64))) (hh : w.heap.size ≤ hi) : Own w base hi a n xs := by
 refine ⟨by have := h.1; simpa using this, fun hn => ?_⟩
 have hl : xs.length = n := by have := h.1; simpa using this
 rcases h.2 with ⟨e, _⟩ | ⟨g, c, cur, e, hb, hg, _, _, _, ht⟩
 ·cases e; omega
 ·injection e with e1 e2 e3
  refine ⟨g, cur, e1, hb, by have := (Array.getElem?_eq_some_iff.1 hg).1; omega, hg, fun i hi' => ?_⟩
  have h2 : (cur.toList.take (n * 1))[i]? = (xs.map (Value.int .i64))[i]? := by rw [ht]
  rw [Nat.mul_one, List.getElem?_take_of_lt hi', List.getElem?_map, List.getElem?_eq_getElem (by omega : i < xs.length)] at h2
  rw [← Array.getElem?_toList, h2, List.getD_eq_getElem?_getD, List.getElem?_eq_getElem (by omega)]
  rfl


/-- Nothing has turned but blocks from lo up to hi. -/
structure Outside (lo hi : Nat) (w w' : World) : Prop where
 os : w'.os = w.os
 tape : w'.tape = w.tape
 output : w'.output = w.output
 size : w'.heap.size = w.heap.size
 block : ∀ j, j < lo ∨ hi ≤ j → w'.heap[j]? = w.heap[j]?
theorem Outside.below {lo hi : Nat} {w w' : World} (h : Outside lo hi w w') {B : Nat} (hB : B ≤ lo) : Below B w w' := ⟨h.os, h.tape, h.output, Nat.le_of_eq h.size.symm, fun k hk => h.block k (.inl (by omega))⟩
theorem Own.outside {w w' : World} {lo hi lo' hi' : Nat} {a : Option Addr} {n : Nat} {xs : List Int} (h : Own w lo hi a n xs) (ho : Outside lo' hi' w w') (hd : hi ≤ lo' ∨ hi' ≤ lo) : Own w' lo hi a n xs :=
 h.kept fun j h1 h2 => ho.block j (by omega)

theorem PartOps.own {w wr : World} {g n : Nat} {l : List OpV} (h : PartOps w wr g n l n) (hl : l.length = n) : OwnOps wr g (g + 1) (some ⟨g, 0, none⟩) n l := by
 obtain ⟨h1, cs, hg, hs, hc⟩ := h
 refine ⟨hl, fun _ => ⟨g, 0, cs, rfl, Nat.le_refl _, Nat.lt_succ_self _, hg, by omega, fun i hi => ?_⟩⟩
 rw [Nat.zero_add]
 exact hc i hi
theorem Outside.beside {lo hi : Nat} {w w' : World} (h : Outside lo hi w w') : Beside lo hi w w' := ⟨h.os, h.tape, h.output, Nat.le_of_eq h.size.symm, fun j _ hj => h.block j hj⟩
theorem Beside.trans {lo hi : Nat} {w w1 w2 : World} (h : Beside lo hi w w1) (h2 : Beside lo hi w1 w2) : Beside lo hi w w2 :=
 ⟨h2.os.trans h.os, h2.tape.trans h.tape, h2.output.trans h.output, Nat.le_trans h.size h2.size, fun j hj hd => (h2.block j (by have := h.size; omega) hd).trans (h.block j hj hd)⟩
theorem Below.beside {lo hi : Nat} {w w' : World} (h : Below w.heap.size w w') : Beside lo hi w w' := ⟨h.os, h.tape, h.output, h.size, fun j hj _ => h.block j hj⟩
def OwnPostC (xs : List Int) (w : World) (e : Ending) (w' : World) : Prop :=
 ∃ a cap, e = .returned (.slice a xs.length cap) ∧ Own w' w.heap.size w'.heap.size a xs.length xs ∧ Below w.heap.size w w' ∧ Caps a xs.length cap



def zipI (f : Int → Int → Int) (xs ys : List Int) : List Int := List.zipWith f xs ys
theorem zipI_take (f : Int → Int → Int) (xs ys : List Int) (k : Nat) (h1 : k < xs.length) (h2 : k < ys.length) : (zipI f xs ys).take (k + 1) = (zipI f xs ys).take k ++ [f (xs.getD k 0) (ys.getD k 0)] := by
 have hk : k < (zipI f xs ys).length := by unfold zipI; rw [List.length_zipWith]; omega
 have e : (zipI f xs ys)[k] = f (xs.getD k 0) (ys.getD k 0) := by
  have := List.getElem_zipWith (f := f) (l := xs) (l' := ys) (i := k) (h := hk)
  rw [List.getD_eq_getElem?_getD, List.getD_eq_getElem?_getD, List.getElem?_eq_getElem h1, List.getElem?_eq_getElem h2]
  exact this
 rw [List.take_succ_eq_append_getElem hk, e]

theorem keep_cell {wr w1 : World} {o : Obj} {row : Option Nat} {b i : Nat} {v : Value} (hg : (wr.alloc o).drew.grownBy w1 row) (hb : b < wr.heap.size) (hne : some b ≠ row) (h : wr.cell? ⟨b, i, none⟩ = some v) : w1.cell? ⟨b, i, none⟩ = some v :=
 (World.cell?_of_block (a := ⟨b, i, none⟩) ((hg.block b (by show b < (wr.heap.push o).size; simp; omega) hne).trans (Below.heap_alloc wr o b hb))).trans h

/-- What VecMax and VecMin answer, plainly. -/
def vecZip (f : Int → Int → Int) (xs ys : List Int) : List Int := if (vecOk xs && vecOk ys) = true then zipI f xs ys else []
theorem vecZip_no {f : Int → Int → Int} {xs ys : List Int} (h : (vecOk xs && vecOk ys) = false) : vecZip f xs ys = [] := by unfold vecZip; rw [h]; rfl
theorem vecZip_yes {f : Int → Int → Int} {xs ys : List Int} (h : (vecOk xs && vecOk ys) = true) : vecZip f xs ys = zipI f xs ys := by unfold vecZip; rw [if_pos h]



set_option linter.unusedVariables false





set_option maxHeartbeats 5000000 in
theorem specMaxYes (w : World) (B B' : Nat) (a a' : Option Addr) (cap cap' : Nat) (xs ys : List Int) (h : Ints w B a 4 xs) (h' : Ints w B' a' 4 ys) (hB : B ≤ w.heap.size) (hB' : B' ≤ w.heap.size) (hk : vecOk xs = true) (hk' : vecOk ys = true) :
  Calls Tryz.prog 104 #[.slice a 4 cap, .slice a' 4 cap'] w (OwnPostC (zipI max xs ys) w) := by
 obtain ⟨i0, hi, hz0, hz1, hz2⟩ := info_parts Tryz.infoI64
 have hbA : Below w.heap.size w (w.alloc (.cells #[] 2)) := (Below.refl _ w).alloc (Nat.le_refl _) _
 have H := Lib.hid h
 have H' := Lib.hid h'
 have HA := Lib.hid (h.below hbA hB)
 have HA' := Lib.hid (h'.below hbA hB')
 have HK := Lib.hid hk
 have HK' := Lib.hid hk'
 have hown := Lib.hid (World.ownsRow_made (e := 2) (size := 1) w #[] 0 (Nat.le_refl w.heap.size) (by unfold maxLen; omega) rfl)
 have HbA := Lib.hid hbA
 clear h h' hk hk' hbA
 go_enter Tryz.func104, Tryz.ntmps104
 go_wp2_with fail
 refine (specVecOk _ B a 4 cap xs (by exact HA.out) (by omega)).mono ?_
 rintro e w1 ⟨rfl, rfl⟩
 rw [HK.out]
 go_wp2_with fail
 refine (specVecOk _ B' a' 4 cap' ys (by exact HA'.out) (by omega)).mono ?_
 rintro e w1 ⟨rfl, rfl⟩
 rw [HK'.out]
 go_wp2
 go_loopw [5, 6] (fun v i wr => ∃ k : Nat, k ≤ 4 ∧ i = .int .i64 k ∧ Hid (wr.ownsRow w.heap.size 2 1 v k (((zipI max xs ys).take k).map (Value.int .i64))) ∧ Below w.heap.size w wr) (fun _ i _ => 4 - (intOf i).toNat)
 case atStart => exact ⟨0, by omega, rfl, hown.out, HbA.out⟩
 case round =>
  obtain ⟨k, hk, rfl, HO, hbr⟩ := hrel
  have hs := hbr.size
  by_cases hlt : k < 4
  ·obtain ⟨b, off, rfl, hb, c1⟩ := H.out.2 k hlt
   obtain ⟨b', off', rfl, hb', c2⟩ := H'.out.2 k hlt
   have c1' := (hbr.cell (p := ⟨b, off + k, none⟩) (by show b < w.heap.size; omega)).trans c1
   have c2' := (hbr.cell (p := ⟨b', off' + k, none⟩) (by show b' < w.heap.size; omega)).trans c2
   obtain ⟨x, hx⟩ : ∃ x, x = xs.getD k 0 := ⟨_, rfl⟩
   obtain ⟨y, hy⟩ : ∃ y, y = ys.getD k 0 := ⟨_, rfl⟩
   rw [← hx] at c1'
   rw [← hy] at c2'
   have HZ : Hid ((zipI max xs ys).take (k + 1) = (zipI max xs ys).take k ++ [max x y]) := by rw [hx, hy]; exact zipI_take _ _ _ _ (by rw [H.out.1]; exact hlt) (by rw [H'.out.1]; exact hlt)
   have hki : (k : Int) < 4 := by omega
   have hk0 : (0 : Int) ≤ (k : Int) := by omega
   clear hx hy c1 c2
   go_wp2_with fail
   have hne1 : ∀ v : Value, wr.ownsRow w.heap.size 2 1 v k (((zipI max xs ys).take k).map (Value.int .i64)) → some b ≠ v.ownBlock := fun v hv e => by have := (hv.lt b e.symm).1; omega
   have hne2 : ∀ v : Value, wr.ownsRow w.heap.size 2 1 v k (((zipI max xs ys).take k).map (Value.int .i64)) → some b' ≠ v.ownBlock := fun v hv e => by have := (hv.lt b' e.symm).1; omega
   have HN1 := Lib.hid (hne1 _ HO.out)
   have HN2 := Lib.hid (hne2 _ HO.out)
   have hbw : b < wr.heap.size := by omega
   have hbw' : b' < wr.heap.size := by omega
   clear hne1 hne2
   go_region_held3 (fun w' => w'.cell? ⟨b, off + k, none⟩ = some (.int .i64 x) ∧ w'.cell? ⟨b', off' + k, none⟩ = some (.int .i64 y)) (first | go_keep | exact ⟨keep_cell hgrow hbw HN1.out c1', keep_cell hgrow hbw' HN2.out c2'⟩)
    ((refine step_append_lies _ (by rfl) _ _ _ (by rfl) w.heap.size 2 i0 _ 1 8 Tryz.underlying46 hi hz0 hz1 hz2 rfl (by omega) _ k _ (by rfl) ((HO.out.alloc _).drew) ⟨wr.heap.size, 0, none⟩ 1 1 [.int .i64 (max x y)] (by rfl) (by rfl) (World.news_of_block (cs := #[.int .i64 (max x y)]) (t := 2) (fr := (0, 0)) (heap_alloc_new wr _)) (by simp [Value.oneCell']) (by omega) (by unfold maxLen; omega) (by omega) (by simp; omega) (wr.heap.size + 1) (by simp) ?_; intro gg cap1 w1 hown1 hgrow hat hlt1))
   have HO1 := Lib.hid (p := w1.ownsRow w.heap.size 2 1 (.slice (some ⟨gg, 0, none⟩) (k + 1) cap1) (k + 1) (((zipI max xs ys).take (k + 1)).map (Value.int .i64))) (by rw [HZ.out]; simpa using hown1)
   have hb1 := (hbr.alloc hs (.cells #[.int .i64 (max x y)] 2)).drew.grown hgrow (by simp; omega) (fun j hj => (HO.out.lt j hj).1)
   clear hown1 hgrow hat
   go_wp2
   go_roundw
   case rel => exact ⟨k + 1, by omega, by go_num, HO1, hb1⟩
   case measure => simp [intOf]; omega
  ·obtain rfl : k = 4 := by omega
   have hzl : (zipI max xs ys).length = 4 := by unfold zipI; rw [List.length_zipWith, H.out.1, H'.out.1]; rfl
   have ho := HO.out
   rw [List.take_of_length_le (by omega)] at ho
   obtain ⟨g, c, hv, _, _⟩ := ho.form (by omega)
   subst hv
   have HP := Lib.hid (own_of_row (hi := wr.heap.size) ho (Nat.le_refl _))
   have HL := Lib.hid hzl
   have HCp := Lib.hid (caps_of_row ho)
   clear ho hzl
   go_wp2
   go_ret
   exact ⟨some ⟨g, 0, none⟩, c, by rw [HL.out]; rfl, by rw [HL.out]; exact HP.out, hbr, by rw [HL.out]; exact HCp.out⟩

theorem specMaxNo (w : World) (B B' : Nat) (a a' : Option Addr) (len cap len' cap' : Nat) (xs ys : List Int) (h : Ints w B a len xs) (h' : Ints w B' a' len' ys) (hB : B ≤ w.heap.size) (hB' : B' ≤ w.heap.size) (hl : len ≤ 1048576) (hl' : len' ≤ 1048576)
  (ok ok' : Bool) (hk : vecOk xs = ok) (hk' : vecOk ys = ok') (hno : (ok && ok') = false) :
  Calls Tryz.prog 104 #[.slice a len cap, .slice a' len' cap'] w (OwnPostC [] w) := by
 have hbA : Below w.heap.size w (w.alloc (.cells #[] 2)) := (Below.refl _ w).alloc (Nat.le_refl _) _
 have HA := Lib.hid (h.below hbA hB)
 have HA' := Lib.hid (h'.below hbA hB')
 have HK := Lib.hid hk
 have HK' := Lib.hid hk'
 have HbA := Lib.hid hbA
 clear h h' hk hk' hbA
 cases ok
 ·clear hno
  go_enter Tryz.func104, Tryz.ntmps104
  go_wp2_with fail
  refine (specVecOk _ B a len cap xs (by exact HA.out) hl).mono ?_
  rintro e w1 ⟨rfl, rfl⟩
  rw [HK.out]
  go_wp2
  go_ret
  exact ⟨some ⟨w.heap.size, 0, none⟩, 0, rfl, ⟨rfl, fun hn => absurd hn (by simp)⟩, HbA.out, caps_zero _⟩
 ·cases ok'
  ·clear hno
   go_enter Tryz.func104, Tryz.ntmps104
   go_wp2_with fail
   refine (specVecOk _ B a len cap xs (by exact HA.out) hl).mono ?_
   rintro e w1 ⟨rfl, rfl⟩
   rw [HK.out]
   go_wp2_with fail
   refine (specVecOk _ B' a' len' cap' ys (by exact HA'.out) hl').mono ?_
   rintro e w1 ⟨rfl, rfl⟩
   rw [HK'.out]
   go_wp2
   go_ret
   exact ⟨some ⟨w.heap.size, 0, none⟩, 0, rfl, ⟨rfl, fun hn => absurd hn (by simp)⟩, HbA.out, caps_zero _⟩
  ·cases hno

theorem specMaxC (w : World) (B B' : Nat) (a a' : Option Addr) (len cap len' cap' : Nat) (xs ys : List Int) (h : Ints w B a len xs) (h' : Ints w B' a' len' ys) (hB : B ≤ w.heap.size) (hB' : B' ≤ w.heap.size) (hl : len ≤ 1048576) (hl' : len' ≤ 1048576) :
  Calls Tryz.prog 104 #[.slice a len cap, .slice a' len' cap'] w (OwnPostC (vecZip max xs ys) w) := by
 cases hk : vecOk xs && vecOk ys
 ·rw [vecZip_no hk]
  exact specMaxNo w B B' a a' len cap len' cap' xs ys h h' hB hB' hl hl' _ _ rfl rfl hk
 ·rw [vecZip_yes hk]
  rw [Bool.and_eq_true] at hk
  obtain ⟨x0, x1, x2, x3, hx⟩ := four hk.1
  obtain ⟨y0, y1, y2, y3, hy⟩ := four hk.2
  obtain rfl : len = 4 := h.1.symm.trans (by rw [hx]; rfl)
  obtain rfl : len' = 4 := h'.1.symm.trans (by rw [hy]; rfl)
  exact specMaxYes w B B' a a' cap cap' xs ys h h' hB hB' hk.1 hk.2
theorem cart_true {xs : List Int} {l : List OpV} (h : cartB xs l = true) : vecOk xs = true ∧ (∀ d, d < 4 → devB xs l d = true) ∧ stOf xs 4 = l.length := by
 unfold cartB at h
 simp only [Bool.and_eq_true, List.all_eq_true, decide_eq_true_eq] at h
 exact ⟨h.1, fun d hd => h.2.1 d (by simpa using hd), h.2.2⟩
theorem stOf_le {xs : List Int} (h : vecOk xs = true) : ∀ d, d ≤ 4 → stOf xs d ≤ 40 * d
 | 0, _ => Nat.le_refl _
 | d + 1, hd => by
  have h1 := stOf_le h d (by omega)
  have h2 := vec_at h (d := d) (by omega)
  show stOf xs d + (xs.getD d 0).toNat ≤ _
  omega
theorem stOf_mono (xs : List Int) : ∀ d e, d ≤ e → stOf xs d ≤ stOf xs e
 | d, 0, h => by obtain rfl : d = 0 := by omega
                 exact Nat.le_refl _
 | d, e + 1, h => by
  rcases Nat.lt_or_ge d (e + 1) with h1 | h1
  ·exact Nat.le_trans (stOf_mono xs d e (by omega)) (Nat.le_add_right _ _)
  ·obtain rfl : d = e + 1 := by omega
   exact Nat.le_refl _


end Go.Proofs.YtgagchlcafdiaaaGreat
