/- Carts of the call's own: laws.toOpS, laws.toCart and laws.markCart. -/
import Derived.Test.YtdbdmfaphdjdpaaCloneW
import Derived.Deep.Cut
namespace Go.Proofs.Ytdbdmfaphdjdpaa
open Go.RowKit

/-- A slice whose row, if it has elements, is a block of its own between lo and hi, and holds xs. -/
def Own (w : World) (lo hi : Nat) (a : Option Addr) (n : Nat) (xs : List Int) : Prop :=
  xs.length = n ∧ (0 < n → ∃ g cur, a = some ⟨g, 0, none⟩ ∧ lo ≤ g ∧ g < hi ∧ w.heap[g]? = some (.cells cur 2 (0, 0)) ∧ ∀ i, i < n → cur[i]? = some (.int .i64 (xs.getD i 0)))
theorem Own.ints {w : World} {lo hi : Nat} {a : Option Addr} {n : Nat} {xs : List Int} (h : Own w lo hi a n xs) : Ints w hi a n xs :=
  ⟨h.1, fun i hi' => by
    obtain ⟨g, cur, e, _, hg2, hg, hc⟩ := h.2 (by omega)
    exact ⟨g, 0, e, hg2, by rw [cell_of_row _ _ _ _ _ _ hg, Nat.zero_add]; exact hc i hi'⟩⟩
theorem Own.kept {w w' : World} {lo hi : Nat} {a : Option Addr} {n : Nat} {xs : List Int} (h : Own w lo hi a n xs) (hk : ∀ j, lo ≤ j → j < hi → w'.heap[j]? = w.heap[j]?) : Own w' lo hi a n xs :=
  ⟨h.1, fun hn => by
    obtain ⟨g, cur, e, h1, h2, hg, hc⟩ := h.2 hn
    exact ⟨g, cur, e, h1, h2, (hk g h1 h2).trans hg, hc⟩⟩
theorem Own.below {w w' : World} {lo hi B : Nat} {a : Option Addr} {n : Nat} {xs : List Int} (h : Own w lo hi a n xs) (hb : Below B w w') (hB : hi ≤ B) : Own w' lo hi a n xs :=
  h.kept fun j _ h2 => hb.block j (by omega)
theorem Own.more {w : World} {lo hi lo' hi' : Nat} {a : Option Addr} {n : Nat} {xs : List Int} (h : Own w lo hi a n xs) (h1 : lo' ≤ lo) (h2 : hi ≤ hi') : Own w lo' hi' a n xs :=
  ⟨h.1, fun hn => by
    obtain ⟨g, cur, e, a1, a2, r⟩ := h.2 hn
    exact ⟨g, cur, e, by omega, by omega, r⟩⟩
theorem own_fresh {w w' : World} {xs : List Int} {hi : Nat} (hg : w'.heap[w.heap.size]? = some (.cells (xs.map (Value.int .i64)).toArray 2 (0, 0))) (hh : w.heap.size < hi) : Own w' w.heap.size hi (some ⟨w.heap.size, 0, none⟩) xs.length xs :=
  ⟨rfl, fun _ => ⟨_, _, rfl, Nat.le_refl _, hh, hg, fun i hi' => by simp [List.getElem?_eq_getElem hi']⟩⟩
theorem own_of_row {w : World} {base hi : Nat} {a : Option Addr} {n cap : Nat} {xs : List Int} (h : w.ownsRow base 2 1 (.slice a n cap) n (xs.map (Value.int .i64))) (hh : w.heap.size ≤ hi) : Own w base hi a n xs := by
  refine ⟨by have := h.1; simpa using this, fun hn => ?_⟩
  have hl : xs.length = n := by have := h.1; simpa using this
  rcases h.2 with ⟨e, _⟩ | ⟨g, c, cur, e, hb, hg, _, _, _, ht⟩
  · cases e; omega
  · injection e with e1 e2 e3
    refine ⟨g, cur, e1, hb, by have := (Array.getElem?_eq_some_iff.1 hg).1; omega, hg, fun i hi' => ?_⟩
    have h2 : (cur.toList.take (n * 1))[i]? = (xs.map (Value.int .i64))[i]? := by rw [ht]
    rw [Nat.mul_one, List.getElem?_take_of_lt hi', List.getElem?_map, List.getElem?_eq_getElem (by omega : i < xs.length)] at h2
    rw [← Array.getElem?_toList, h2, List.getD_eq_getElem?_getD, List.getElem?_eq_getElem (by omega)]
    rfl


/-- Nothing has turned but blocks from lo up to hi. -/
structure Outside (lo hi : Nat) (w w' : World) : Prop where
  os : w'.os = w.os
  tape : w'.tape = w.tape
  output : w'.output = w.output
  size : w'.heap.size = w.heap.size
  block : ∀ j, j < lo ∨ hi ≤ j → w'.heap[j]? = w.heap[j]?
theorem Outside.below {lo hi : Nat} {w w' : World} (h : Outside lo hi w w') {B : Nat} (hB : B ≤ lo) : Below B w w' := ⟨h.os, h.tape, h.output, Nat.le_of_eq h.size.symm, fun k hk => h.block k (.inl (by omega))⟩
theorem Own.outside {w w' : World} {lo hi lo' hi' : Nat} {a : Option Addr} {n : Nat} {xs : List Int} (h : Own w lo hi a n xs) (ho : Outside lo' hi' w w') (hd : hi ≤ lo' ∨ hi' ≤ lo) : Own w' lo hi a n xs :=
  h.kept fun j h1 h2 => ho.block j (by omega)

def marks (k n : Nat) : List Int := (List.range n).map fun j => ((k + j : Nat) : Int)
theorem marks_len (k n : Nat) : (marks k n).length = n := by simp [marks]
theorem marks_at {k n i : Nat} (h : i < n) : (marks k n).getD i 0 = ((k + i : Nat) : Int) := by
  rw [List.getD_eq_getElem?_getD]
  simp [marks, h]

def MarkPost (k n lo hi : Nat) (a : Option Addr) (w : World) (e : Ending) (w' : World) : Prop :=
  (∃ m : Nat, m = k + n ∧ e = .returned (.int .i64 (m : Int))) ∧ Own w' lo hi a n (marks k n) ∧ Outside lo hi w w'

set_option maxRecDepth 100000 in
set_option maxHeartbeats 400000 in
theorem mark (w : World) (lo hi : Nat) (a : Option Addr) (n cap : Nat) (xs : List Int) (h : Own w lo hi a n xs) (k : Nat) (hk : k ≤ 20000000) (hn : n ≤ 1048576) :
    Calls Try.prog 56 #[.slice a n cap, .int .i64 (k : Int)] w (MarkPost k n lo hi a w) := by
  by_cases h0 : 0 < n
  · obtain ⟨g, cur, rfl, hlo, hhi, hg, hc⟩ := h.2 h0
    have HG := Lib.hid hg
    have HC := Lib.hid hc
    clear h hg hc
    go_enter Try.func56, Try.ntmps56
    go_wp2
    go_loopw [1, 5] (fun m i wr => ∃ j q : Nat, j ≤ n ∧ i = .int .i64 j ∧ m = .int .i64 q ∧ Hid (q = k + j) ∧ Hid (Outside g (g + 1) w wr ∧ ∃ cs : Array Value, wr.heap[g]? = some (.cells cs 2 (0, 0)) ∧ n ≤ cs.size ∧ ∀ t, t < j → cs[t]? = some (.int .i64 ((k + t : Nat) : Int)))) (fun _ i _ => n - (intOf i).toNat)
    case atStart =>
      refine ⟨0, k, by omega, rfl, rfl, rfl, ⟨rfl, rfl, rfl, rfl, fun _ _ => rfl⟩, cur, HG.out, ?_, fun t ht => by omega⟩
      have := HC.out (n - 1) (by omega)
      have := (Array.getElem?_eq_some_iff.1 this).1
      omega
    case round =>
      obtain ⟨j, q, hj, rfl, rfl, HQ, HP⟩ := hrel
      have hq : q ≤ 22000000 := by have := HQ.out; omega
      by_cases hlt : j < n
      · obtain ⟨hout, cs, hgs, hsz, hct⟩ := HP.out
        have c1 : wr.cell? ⟨g, j, none⟩ = some cs[j] := (cell_of_row _ _ _ _ _ _ hgs).trans (Array.getElem?_eq_getElem (by omega))
        have f1 : wr.frozen? ⟨g, j, none⟩ = false := frozen_of_row _ _ _ _ _ hgs
        generalize cs[j] = v at c1
        have HP' : Hid (Outside g (g + 1) w (wr.setCell ⟨g, j, none⟩ (.int .i64 (q : Int))) ∧ ∃ cs : Array Value, (wr.setCell ⟨g, j, none⟩ (.int .i64 (q : Int))).heap[g]? = some (.cells cs 2 (0, 0)) ∧ n ≤ cs.size ∧ ∀ t, t < j + 1 → cs[t]? = some (.int .i64 ((k + t : Nat) : Int))) := by
          refine ⟨⟨hout.os, hout.tape, hout.output, by simpa [World.setCell] using hout.size, fun i hi => (heap_setCell_other _ _ _ _ (by show i ≠ g; omega)).trans (hout.block i hi)⟩, cs.setIfInBounds j (.int .i64 (q : Int)), heap_setCell_same _ _ _ _ _ _ hgs, by simpa using hsz, fun t ht => ?_⟩
          rw [Array.getElem?_setIfInBounds]
          by_cases e : j = t
          · subst e
            rw [if_pos rfl, if_pos (by omega), HQ.out]
          · rw [if_neg e]
            exact hct t (by omega)
        clear hout hgs hsz hct HP
        go_wp2
        go_roundw
        case rel => exact ⟨j + 1, q + 1, by omega, by go_num, by go_num, (by have := HQ.out; show q + 1 = k + (j + 1); omega), HP'⟩
        case measure => simp [intOf]; omega
      · obtain rfl : j = n := by omega
        obtain ⟨hout, cs, hgs, hsz, hct⟩ := HP.out
        have HO : Hid (MarkPost k j lo hi (some ⟨g, 0, none⟩) w (.returned (.int .i64 (q : Int))) wr) := by
          refine ⟨⟨q, HQ.out, rfl⟩, ⟨marks_len _ _, fun _ => ⟨g, cs, rfl, hlo, hhi, hgs, fun i hi => by rw [marks_at hi]; exact hct i hi⟩⟩, ⟨hout.os, hout.tape, hout.output, hout.size, fun i hi => hout.block i (by omega)⟩⟩
        clear hout hgs hsz hct HP
        go_wp2
        go_ret
        exact HO.out
  · obtain rfl : n = 0 := by omega
    clear h
    go_enter Try.func56, Try.ntmps56
    go_wp2
    refine wp_loop_rounds 1 ?_
    rw [rounds_succ]
    go_wp2
    go_ret
    exact ⟨⟨k, rfl, rfl⟩, ⟨rfl, fun hn => absurd hn (by omega)⟩, ⟨rfl, rfl, rfl, rfl, fun _ _ => rfl⟩⟩


theorem PartOps.own {w wr : World} {g n : Nat} {l : List OpV} (h : PartOps w wr g n l n) (hl : l.length = n) : OwnOps wr g (g + 1) (some ⟨g, 0, none⟩) n l := by
  obtain ⟨h1, cs, hg, hs, hc⟩ := h
  refine ⟨hl, fun _ => ⟨g, 0, cs, rfl, Nat.le_refl _, Nat.lt_succ_self _, hg, by omega, fun i hi => ?_⟩⟩
  rw [Nat.zero_add]
  exact hc i hi
def FreshOwn (l : List OpV) (w : World) (e : Ending) (w' : World) : Prop :=
  e = .returned (.slice (some ⟨w.heap.size, 0, none⟩) l.length l.length) ∧ OwnOps w' w.heap.size (w.heap.size + 1) (some ⟨w.heap.size, 0, none⟩) l.length l ∧ w.heap.size < w'.heap.size ∧ Below w.heap.size w w'
set_option maxRecDepth 100000 in
set_option maxHeartbeats 1000000 in
theorem toOpsO (w : World) (B : Nat) (a : Option Addr) (n cap : Nat) (l : List OpV) (h : Ops w B a n l) (hB : B ≤ w.heap.size) (hl : n ≤ 1048576) :
    Calls Try.prog 48 #[.slice a n cap] w (FreshOwn l w) := by
  obtain ⟨i0, hi, hz0, hz1, hz2⟩ := info_parts Try.infoOp
  obtain ⟨M, hM⟩ : ∃ M, M = madeCells (Value.agg #[.int .i64 0, .int .i64 0, .int .i64 0, .int .i64 0, .string ⟨#[]⟩, .int .i64 0, .int .i64 0, .int .i64 0]).cells (((n : Nat) : Int).toNat * i0.size) := ⟨_, rfl⟩
  have hMs : M.size = n * 8 := by rw [hM, size_madeCells, hz1]; simp
  have hmk : ∀ W : World, (Instr.makeSlice 27 (.int .i64 (n : Int)) (.int .i64 (n : Int))).run Try.prog W = .ok (.slice (some ⟨W.heap.size, 0, none⟩) n n) (W.alloc (.cells M 77)) := fun W => by
    have h := run_make (P := Try.prog) W 27 77 i0 (.agg #[.int .i64 0, .int .i64 0, .int .i64 0, .int .i64 0, .string ⟨#[]⟩, .int .i64 0, .int .i64 0, .int .i64 0]) Try.underlying27 hi hz0 .i64 .i64 (n : Int) (n : Int) (by omega) (by omega) (by rw [hz2]; omega) (by omega)
    rw [← hM] at h
    simpa using h
  have hL := Lib.hid h.1
  have H := Lib.hid h
  have HM := Lib.hid hMs
  clear hM h hMs hi hz0 hz1 hz2
  go_enter Try.func48, Try.ntmps48
  go_wp2
  go_loopw [4] (fun i wr => ∃ k : Nat, k ≤ n ∧ i = .int .i64 k ∧ Hid (PartOps w wr w.heap.size n l k) ∧ Hid (w.heap.size < wr.heap.size)) (fun i _ => n - (intOf i).toNat)
  case atStart => exact ⟨0, Nat.zero_le _, rfl, ⟨(Below.refl _ _).alloc (Nat.le_refl _) _, M, heap_alloc_new _ _, HM.out, fun j hj => by omega⟩, (by show _ < (w.heap.push _).size; simp)⟩
  case round =>
    obtain ⟨k, hk, rfl, HP, HW⟩ := hrel
    by_cases hlt : k < n
    · obtain ⟨b, off, rfl, hb, ho⟩ := H.out.2 k hlt
      obtain ⟨c0, c1, c2, c3, c4, c5, c6, c7⟩ := ho.kept (HP.out.1.block b (by omega))
      clear ho
      generalize ho' : l.getD k OpV.zero = x at c0 c1 c2 c3 c4 c5 c6 c7
      have HXo := Lib.hid ho'
      clear ho'
      go_wp2_with fail
      refine (toOp x.dev x.seq x.stamp x.kind x.item x.qty x.level x.undos _).mono ?_
      rintro e w1 ⟨rfl, hb1⟩
      clear c0 c1 c2 c3 c4 c5 c6 c7
      have HP1 := Lib.hid (HP.out.next hb1)
      have hw1 : w.heap.size < w1.heap.size := by have := HW.out; have := hb1.size; omega
      have HS : Hid (PartOps w (setAt w1 w.heap.size (k * 8) x) w.heap.size n l (k + 1)) := by have := HP1.out.step (Nat.le_refl _) hlt; rw [HXo.out] at this; exact this
      obtain ⟨v0, v1, v2, v3, v4, v5, v6, v7, d0, d1, d2, d3, d4, d5, d6, d7⟩ := HP1.out.cells hlt
      have f0 := HP1.out.frozen (k * 8)
      have f1 := HP1.out.frozen (k * 8 + 1)
      have f2 := HP1.out.frozen (k * 8 + 2)
      have f3 := HP1.out.frozen (k * 8 + 3)
      have f4 := HP1.out.frozen (k * 8 + 4)
      have f5 := HP1.out.frozen (k * 8 + 5)
      have f6 := HP1.out.frozen (k * 8 + 6)
      have f7 := HP1.out.frozen (k * 8 + 7)
      have hsz : (setAt w1 w.heap.size (k * 8) x).heap.size = w1.heap.size := by unfold setAt; simp [World.setCell]
      clear hb1 HP HP1 HW
      go_wp2
      go_roundw
      case rel => exact ⟨k + 1, by omega, by go_num, HS, (by show _ < (setAt w1 w.heap.size (k * 8) x).heap.size; rw [hsz]; exact hw1)⟩
      case measure => simp [intOf]; omega
    · obtain rfl : k = n := by omega
      have HD := Lib.hid (HP.out.own hL.out)
      go_wp2
      go_ret
      exact ⟨by rw [hL.out]; rfl, by rw [hL.out]; exact HD.out, HW.out, HP.out.1⟩

/-- A new cart of the call's own with the same vector and operations is handed back. -/
def OwnCart (xs : List Int) (l : List OpV) (w : World) (e : Ending) (w' : World) : Prop :=
  ∃ av ao mid, e = .returned (.agg #[.slice av xs.length xs.length, .slice ao l.length l.length]) ∧ ao ≠ none ∧ w.heap.size ≤ mid ∧ mid ≤ w'.heap.size ∧ Own w' w.heap.size mid av xs.length xs ∧ OwnOps w' mid w'.heap.size ao l.length l ∧ Below w.heap.size w w'
set_option maxRecDepth 100000 in
set_option maxHeartbeats 2000000 in
theorem toCartO (w : World) (B : Nat) (av ao : Option Addr) (nv cv no co : Nat) (xs : List Int) (l : List OpV) (hx : Ints w B av nv xs) (h : Ops w B ao no l) (hB : B ≤ w.heap.size) (hv : nv ≤ 1048576) (hn : no ≤ 1048576) :
    Calls Try.prog 9 #[.agg #[.slice av nv cv, .slice ao no co]] w (OwnCart xs l w) := by
  have H3 := Lib.hid (three0 w #[.slice av nv cv, .slice ao no co] #[.slice none 0 0, .slice none 0 0])
  have HX := Lib.hid (hx.below H3.out.bel hB)
  have HO := Lib.hid (h.below H3.out.bel hB)
  have hL : no = l.length := h.1.symm
  have hLx : nv = xs.length := hx.1.symm
  have HL := Lib.hid hL
  have HLx := Lib.hid hLx
  clear hx h hL hLx
  go_enter Try.func9, Try.ntmps9
  go_upto_region 2 with fail
  generalize ((w.alloc (.cells #[.slice av nv cv, .slice ao no co] 25)).alloc (.cells #[.slice none 0 0, .slice none 0 0] 29)).alloc (.cells #[.slice none 0 0, .slice none 0 0] 29) = w0 at H3 HX HO ⊢
  obtain ⟨c0, c1⟩ := pair_cells H3.out.arg
  have hsz0 := H3.out.bel.size
  have hlt0 : w.heap.size + 2 < w0.heap.size := (Array.getElem?_eq_some_iff.1 H3.out.out).1
  go_wp2_with fail
  refine (toInts w0 B av nv cv xs HX.out (by omega) hv).mono ?_
  rintro e w1 ⟨rfl, hg1, hb1⟩
  have hI1 : Own w1 w0.heap.size w1.heap.size (some ⟨w0.heap.size, 0, none⟩) xs.length xs := own_fresh hg1 (lt_of_block hg1)
  have H31 := Lib.hid (H3.out.next hb1)
  have HO1 := Lib.hid (HO.out.below hb1 (by omega))
  have hs1 := hb1.size
  have hlt1 := lt_of_block hg1
  clear c0 c1 hg1 hb1 HO HX H3
  obtain ⟨d0, d1⟩ := pair_cells H31.out.out
  obtain ⟨f0, f1⟩ := pair_frozen H31.out.out
  have H32 : Hid (Three w (w1.setCell ⟨w.heap.size + 2, 0, none⟩ (.slice (some ⟨w0.heap.size, 0, none⟩) xs.length xs.length)) #[.slice av nv cv, .slice ao no co] #[.slice (some ⟨w0.heap.size, 0, none⟩) xs.length xs.length, .slice none 0 0]) := H31.out.put 0 _
  have HO2 : Hid (Ops (w1.setCell ⟨w.heap.size + 2, 0, none⟩ (.slice (some ⟨w0.heap.size, 0, none⟩) xs.length xs.length)) B ao no l) := HO1.out.kept fun k hk => heap_setCell_other _ _ _ _ (by show k ≠ w.heap.size + 2; omega)
  have HI2 : Hid (Own (w1.setCell ⟨w.heap.size + 2, 0, none⟩ (.slice (some ⟨w0.heap.size, 0, none⟩) xs.length xs.length)) w0.heap.size w1.heap.size (some ⟨w0.heap.size, 0, none⟩) xs.length xs) := hI1.kept fun j h1 h2 => heap_setCell_other _ _ _ _ (by show j ≠ w.heap.size + 2; omega)
  have hsz2 : (w1.setCell ⟨w.heap.size + 2, 0, none⟩ (.slice (some ⟨w0.heap.size, 0, none⟩) xs.length xs.length)).heap.size = w1.heap.size := by simp [World.setCell]
  go_upto_region 3 with fail
  generalize w1.setCell ⟨w.heap.size + 2, 0, none⟩ (.slice (some ⟨w0.heap.size, 0, none⟩) xs.length xs.length) = w2 at H32 HO2 HI2 hsz2 ⊢
  generalize w0.heap.size = g0 at H32 HI2 hsz0 hlt0 hs1 hlt1 ⊢
  clear d0 d1 f0 f1 H31 HO1 hI1
  obtain ⟨c0, c1⟩ := pair_cells H32.out.arg
  have hs2 : w1.heap.size ≤ w2.heap.size := Nat.le_of_eq hsz2.symm
  clear hsz2
  go_wp2_with fail
  refine (toOpsO w2 B ao no co l HO2.out (by omega) hn).mono ?_
  rintro e w3 ⟨rfl, ho3, hlt3, hb3⟩
  have H33 := Lib.hid (H32.out.next hb3)
  have HI3 := Lib.hid (HI2.out.below hb3 (by omega))
  have HO3 := Lib.hid ho3
  have hs3 := hb3.size
  clear c0 c1 hb3 ho3 H32 HI2 HO2
  obtain ⟨d0, d1⟩ := pair_cells H33.out.out
  obtain ⟨f0, f1⟩ := pair_frozen H33.out.out
  have H34 : Hid (Three w (w3.setCell ⟨w.heap.size + 2, 1, none⟩ (.slice (some ⟨w2.heap.size, 0, none⟩) l.length l.length)) #[.slice av nv cv, .slice ao no co] #[.slice (some ⟨g0, 0, none⟩) xs.length xs.length, .slice (some ⟨w2.heap.size, 0, none⟩) l.length l.length]) := H33.out.put 1 _
  have HI4 : Hid (Own (w3.setCell ⟨w.heap.size + 2, 1, none⟩ (.slice (some ⟨w2.heap.size, 0, none⟩) l.length l.length)) g0 w1.heap.size (some ⟨g0, 0, none⟩) xs.length xs) := HI3.out.kept fun j h1 h2 => heap_setCell_other _ _ _ _ (by show j ≠ w.heap.size + 2; omega)
  have HO4 : Hid (OwnOps (w3.setCell ⟨w.heap.size + 2, 1, none⟩ (.slice (some ⟨w2.heap.size, 0, none⟩) l.length l.length)) w2.heap.size (w2.heap.size + 1) (some ⟨w2.heap.size, 0, none⟩) l.length l) := HO3.out.kept fun j h1 h2 => heap_setCell_other _ _ _ _ (by show j ≠ w.heap.size + 2; omega)
  have HNn : Hid (some (⟨w2.heap.size, 0, none⟩ : Addr) ≠ none) := by show some _ ≠ none; intro h; cases h
  have hsz4 : (w3.setCell ⟨w.heap.size + 2, 1, none⟩ (.slice (some ⟨w2.heap.size, 0, none⟩) l.length l.length)).heap.size = w3.heap.size := by simp [World.setCell]
  have HIk : Hid (∀ v0 v1 : Value, Own (((w3.setCell ⟨w.heap.size + 2, 1, none⟩ (.slice (some ⟨w2.heap.size, 0, none⟩) l.length l.length)).setCell ⟨w.heap.size + 1, 0, none⟩ v0).setCell ⟨w.heap.size + 1, 1, none⟩ v1) g0 w1.heap.size (some ⟨g0, 0, none⟩) xs.length xs) := fun v0 v1 => HI4.out.kept fun j h1 h2 => (heap_setCell_other _ _ _ _ (by show j ≠ w.heap.size + 1; omega)).trans (heap_setCell_other _ _ _ _ (by show j ≠ w.heap.size + 1; omega))
  have HOk : Hid (∀ v0 v1 : Value, OwnOps (((w3.setCell ⟨w.heap.size + 2, 1, none⟩ (.slice (some ⟨w2.heap.size, 0, none⟩) l.length l.length)).setCell ⟨w.heap.size + 1, 0, none⟩ v0).setCell ⟨w.heap.size + 1, 1, none⟩ v1) w2.heap.size (w2.heap.size + 1) (some ⟨w2.heap.size, 0, none⟩) l.length l) := fun v0 v1 => HO4.out.kept fun j h1 h2 => (heap_setCell_other _ _ _ _ (by show j ≠ w.heap.size + 1; omega)).trans (heap_setCell_other _ _ _ _ (by show j ≠ w.heap.size + 1; omega))
  have hlo : w.heap.size ≤ g0 ∧ w.heap.size ≤ w2.heap.size ∧ w1.heap.size ≤ w3.heap.size ∧ w2.heap.size + 1 ≤ w3.heap.size := by omega
  go_upto_region 4 with fail
  generalize w3.setCell ⟨w.heap.size + 2, 1, none⟩ (.slice (some ⟨w2.heap.size, 0, none⟩) l.length l.length) = w4 at H34 HI4 HO4 hsz4 HIk HOk ⊢
  generalize some (⟨w2.heap.size, 0, none⟩ : Addr) = oa at H34 HO4 HOk HNn ⊢
  generalize some (⟨g0, 0, none⟩ : Addr) = va at H34 HI4 HIk ⊢
  clear d0 d1 f0 f1 H33 HI3 HO3
  obtain ⟨d0, d1⟩ := pair_cells H34.out.out
  obtain ⟨e0, e1⟩ := pair_cells H34.out.res
  obtain ⟨f0, f1⟩ := pair_frozen H34.out.res
  have HX := Lib.hid (pair_set (.slice va xs.length xs.length) (.slice oa l.length l.length) H34.out.res)
  have HBf := Lib.hid ((H34.out.bel.setCell (p := ⟨w.heap.size + 1, 0, none⟩) (by show _ ≤ w.heap.size + 1; omega) (.slice va xs.length xs.length)).setCell (p := ⟨w.heap.size + 1, 1, none⟩) (by show _ ≤ w.heap.size + 1; omega) (.slice oa l.length l.length))
  have hszf := pair_size w4 (w.heap.size + 1) (.slice va xs.length xs.length) (.slice oa l.length l.length)
  have HIf : Hid (Own ((w4.setCell ⟨w.heap.size + 1, 0, none⟩ (.slice va xs.length xs.length)).setCell ⟨w.heap.size + 1, 1, none⟩ (.slice oa l.length l.length)) g0 w1.heap.size va xs.length xs) := HIk.out _ _
  have HOf : Hid (OwnOps ((w4.setCell ⟨w.heap.size + 1, 0, none⟩ (.slice va xs.length xs.length)).setCell ⟨w.heap.size + 1, 1, none⟩ (.slice oa l.length l.length)) w2.heap.size (w2.heap.size + 1) oa l.length l) := HOk.out _ _
  clear HIk HOk H34 HI4 HO4
  go_wp2
  generalize (w4.setCell ⟨w.heap.size + 1, 0, none⟩ (.slice va xs.length xs.length)).setCell ⟨w.heap.size + 1, 1, none⟩ (.slice oa l.length l.length) = wf at HX HBf hszf HIf HOf ⊢
  clear d0 d1 e0 e1 f0 f1
  obtain ⟨d0, d1⟩ := pair_cells HX.out
  exact bodyPost_ret (v := .agg #[.slice va xs.length xs.length, .slice oa l.length l.length]) (by simp [results, Try.results9, go_sem, d0, d1]) rfl ⟨va, oa, w1.heap.size, rfl, HNn.out, by omega, by omega, HIf.out.more (by omega) (Nat.le_refl _), HOf.out.more (by omega) (by omega), HBf.out⟩

theorem Outside.beside {lo hi : Nat} {w w' : World} (h : Outside lo hi w w') : Beside lo hi w w' := ⟨h.os, h.tape, h.output, Nat.le_of_eq h.size.symm, fun j _ hj => h.block j hj⟩
theorem Beside.trans {lo hi : Nat} {w w1 w2 : World} (h : Beside lo hi w w1) (h2 : Beside lo hi w1 w2) : Beside lo hi w w2 :=
  ⟨h2.os.trans h.os, h2.tape.trans h.tape, h2.output.trans h.output, Nat.le_trans h.size h2.size, fun j hj hd => (h2.block j (by have := h.size; omega) hd).trans (h.block j hj hd)⟩
theorem Below.beside {lo hi : Nat} {w w' : World} (h : Below w.heap.size w w') : Beside lo hi w w' := ⟨h.os, h.tape, h.output, h.size, fun j hj _ => h.block j hj⟩
set_option maxRecDepth 100000 in
set_option maxHeartbeats 1000000 in
theorem markCartO (w : World) (lo mid hi : Nat) (av ao : Option Addr) (nv cv no co : Nat) (xs : List Int) (l : List OpV) (hx : Own w lo mid av nv xs) (h : OwnOps w mid hi ao no l) (h1 : lo ≤ mid) (h2 : mid ≤ hi) (hh : hi ≤ w.heap.size) (hv : nv ≤ 1048576) (hn : no ≤ 1048576) (k : Nat) (hk0 : 0 < k) (hk : k ≤ 9000000) :
    Calls Try.prog 12 #[.agg #[.slice av nv cv, .slice ao no co], .int .i64 (k : Int)] w fun e w' => (∃ m : Nat, Hid (m = k + nv + 8 * no) ∧ e = .returned (.int .i64 (m : Int))) ∧ Beside lo hi w w' := by
  have hb0 : Below w.heap.size w (w.alloc (.cells #[.slice av nv cv, .slice ao no co] 29)) := (Below.refl _ w).alloc (Nat.le_refl _) _
  have HV := Lib.hid (hx.below hb0 (by omega))
  have HO := Lib.hid (h.below hb0 hh)
  have HB : Hid (Beside lo hi w (w.alloc (.cells #[.slice av nv cv, .slice ao no co] 29))) := Below.beside hb0
  have HX := Lib.hid (boxAt (Below.refl _ (w.alloc (.cells #[.slice av nv cv, .slice ao no co] 29))))
  have hsz : w.heap.size < (w.alloc (.cells #[.slice av nv cv, .slice ao no co] 29)).heap.size := by show _ < (w.heap.push _).size; simp
  clear hx h hb0
  go_enter Try.func12, Try.ntmps12
  go_wp2_with fail
  generalize w.alloc (.cells #[.slice av nv cv, .slice ao no co] 29) = w0 at HV HO HB HX hsz ⊢
  refine (mark w0 lo mid av nv cv xs HV.out k (by omega) hv).mono ?_
  rintro e w1 ⟨⟨m, hm, rfl⟩, ho, hO⟩
  have HO1 : Hid (OwnOps w1 mid hi ao no l) := HO.out.kept fun j h1 h2 => hO.block j (by omega)
  have HX1 := Lib.hid ((hO.block _ (.inr (by omega))).trans HX.out)
  have HB1 := Lib.hid (HB.out.trans (hO.beside.wide (Nat.le_refl _) h2))
  have hs1 : w.heap.size < w1.heap.size := by have := hO.size; omega
  have hmb : 0 < m ∧ m ≤ 10048577 := by omega
  obtain ⟨hm0, hm1⟩ := hmb
  have HMm := Lib.hid hm
  clear ho hO HX HV HO HB hm
  obtain ⟨c0, c1⟩ := pair_cells HX1.out
  go_wp2_with fail
  refine (markOps w1 mid hi ao no co l HO1.out m hm0 (by omega) hn).mono ?_
  rintro e w2 ⟨⟨m2, hm2, rfl⟩, _, hO⟩
  have HB2 := Lib.hid (HB1.out.trans (hO.wide h1 (Nat.le_refl _)))
  have hm2' : Hid (m2 = k + nv + 8 * no) := by have := HMm.out; show _ = _; omega
  clear hO c0 c1 HX1 HB1 HO1 hm2 HMm
  go_wp2
  go_ret
  exact ⟨⟨m2, hm2', rfl⟩, HB2.out⟩
end Go.Proofs.Ytdbdmfaphdjdpaa
