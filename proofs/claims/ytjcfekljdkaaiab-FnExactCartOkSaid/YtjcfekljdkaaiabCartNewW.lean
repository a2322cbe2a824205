/- The walks of impl.CartNew, spec.CartNew, of the laws' tools on carts without operations, and of the law FnExactCartNew. -/
import Derived.Test.YtjcfekljdkaaiabOwnW
import Derived.Test.YtjcfekljdkaaiabOpW
import Derived.Deep.Cut
namespace Go.Proofs.Ytjcfekljdkaaiab
open Go.RowKit

def CartNewPost (w : World) (e : Ending) (w' : World) : Prop :=
  ∃ a cap, e = .returned (.agg #[.slice a 4 cap, .slice none 0 0]) ∧ Own w' w.heap.size w'.heap.size a 4 [0, 0, 0, 0] ∧ Below w.heap.size w w'
theorem pair_cells {w : World} {b : Nat} {v0 v1 : Value} {T : TypeId} {fr : Nat × Nat} (h : w.heap[b]? = some (.cells #[v0, v1] T fr)) : w.cell? ⟨b, 0, none⟩ = some v0 ∧ w.cell? ⟨b, 1, none⟩ = some v1 :=
  ⟨cell_of_row _ _ _ _ _ _ h, cell_of_row _ _ _ _ _ _ h⟩
theorem pair_frozen {w : World} {b : Nat} {cs : Array Value} {T : TypeId} (h : w.heap[b]? = some (.cells cs T (0, 0))) : w.frozen? ⟨b, 0, none⟩ = false ∧ w.frozen? ⟨b, 1, none⟩ = false :=
  ⟨frozen_of_row _ _ _ _ _ h, frozen_of_row _ _ _ _ _ h⟩
theorem pair_set {w : World} {b : Nat} {c0 c1 : Value} {T : TypeId} (v0 v1 : Value) (h : w.heap[b]? = some (.cells #[c0, c1] T (0, 0))) : ((w.setCell ⟨b, 0, none⟩ v0).setCell ⟨b, 1, none⟩ v1).heap[b]? = some (.cells #[v0, v1] T (0, 0)) := by
  have h0 : (w.setCell ⟨b, 0, none⟩ v0).heap[b]? = some (.cells #[v0, c1] T (0, 0)) := heap_setCell_same _ _ _ _ _ _ h
  exact heap_setCell_same _ _ _ _ _ _ h0
theorem pair_other {w : World} {b k : Nat} (v0 v1 : Value) (h : k ≠ b) : ((w.setCell ⟨b, 0, none⟩ v0).setCell ⟨b, 1, none⟩ v1).heap[k]? = w.heap[k]? := by
  rw [heap_setCell_other _ _ _ _ h, heap_setCell_other _ _ _ _ h]
theorem pair_size (w : World) (b : Nat) (v0 v1 : Value) : ((w.setCell ⟨b, 0, none⟩ v0).setCell ⟨b, 1, none⟩ v1).heap.size = w.heap.size := by
  simp [World.setCell]
theorem zero_made (W : World) : (Instr.makeSlice 30 (.int .i64 4) (.int .i64 4)).run Try.prog W = .ok (.slice (some ⟨W.heap.size, 0, none⟩) 4 4) (W.alloc (.cells #[.int .i64 0, .int .i64 0, .int .i64 0, .int .i64 0] 2)) := by
  obtain ⟨i0, hi, hz0, hz1, hz2⟩ := info_parts Try.infoI64
  have h := run_make (P := Try.prog) W 30 2 i0 (.int .i64 0) Try.underlying30 hi hz0 .i64 .i64 4 4 (by omega) (by omega) (by rw [hz2]; omega) (by omega)
  rw [hz1] at h
  have e : madeCells (Value.int .i64 0).cells (Int.toNat 4 * 1) = #[.int .i64 0, .int .i64 0, .int .i64 0, .int .i64 0] := by kernel_rfl
  rw [e] at h
  exact h

set_option maxRecDepth 100000 in
theorem implCartNew (w : World) : Calls Try.prog 24 #[] w (CartNewPost w) := by
  go_enter Try.func24, Try.ntmps24
  go_wp2_with fail
  refine (vlist _ 0 0 0 0).mono ?_
  rintro e w1 ⟨a, cap, rfl, ho, hb⟩
  have hx := boxAt hb
  have HB := Lib.hid (box_below hb)
  obtain ⟨c0, c1⟩ := pair_cells hx
  obtain ⟨f0, f1⟩ := pair_frozen hx
  have HX := Lib.hid (pair_set (.slice a 4 cap) (.slice none 0 0) hx)
  have HO : Hid (Own ((w1.setCell ⟨w.heap.size, 0, none⟩ (.slice a 4 cap)).setCell ⟨w.heap.size, 1, none⟩ (.slice none 0 0)) w.heap.size w1.heap.size a 4 [0, 0, 0, 0]) := (Own.kept ho fun j h1 h2 => pair_other _ _ (by have : w.heap.size < (w.alloc (.cells #[.slice none 0 0, .slice none 0 0] 33)).heap.size := by { show _ < (w.heap.push _).size; simp }; omega)).more (by show _ ≤ (w.heap.push _).size; simp) (Nat.le_refl _)
  have HBf := Lib.hid ((HB.out.setCell (p := ⟨w.heap.size, 0, none⟩) (Nat.le_refl _) (.slice a 4 cap)).setCell (p := ⟨w.heap.size, 1, none⟩) (Nat.le_refl _) (.slice none 0 0))
  have hsz := pair_size w1 w.heap.size (.slice a 4 cap) (.slice none 0 0)
  clear hx hb ho
  go_wp2
  generalize (w1.setCell ⟨w.heap.size, 0, none⟩ (.slice a 4 cap)).setCell ⟨w.heap.size, 1, none⟩ (.slice none 0 0) = wf at HX HO HBf hsz ⊢
  obtain ⟨d0, d1⟩ := pair_cells HX.out
  exact bodyPost_ret (v := .agg #[.slice a 4 cap, .slice none 0 0]) (by simp [results, Try.results24, go_sem, d0, d1]) rfl ⟨a, cap, rfl, HO.out.more (Nat.le_refl _) (Nat.le_of_eq hsz.symm), HBf.out⟩
theorem l2Zero (w : World) : Calls Try.prog 63 #[] w fun e w' => ∃ a cap, e = .returned (.slice a 4 cap) ∧ Own w' w.heap.size w'.heap.size a 4 [0, 0, 0, 0] ∧ Below w.heap.size w w' := by
  have hm := zero_made
  go_enter Try.func63, Try.ntmps63
  go_wp2
  go_ret
  refine ⟨_, _, rfl, own_fresh (xs := [0, 0, 0, 0]) (heap_alloc_new _ _) (by show _ < (w.heap.push _).size; simp), (Below.refl _ _).alloc (Nat.le_refl _) _⟩
set_option maxRecDepth 100000 in
theorem specCartNew (w : World) : Calls Try.prog 28 #[] w (CartNewPost w) := by
  go_enter Try.func28, Try.ntmps28
  go_wp2_with fail
  refine (l2Zero _).mono ?_
  rintro e w1 ⟨a, cap, rfl, ho, hb⟩
  have hx := boxAt hb
  have HB := Lib.hid (box_below hb)
  obtain ⟨c0, c1⟩ := pair_cells hx
  obtain ⟨f0, f1⟩ := pair_frozen hx
  have HX := Lib.hid (pair_set (.slice a 4 cap) (.slice none 0 0) hx)
  have HO : Hid (Own ((w1.setCell ⟨w.heap.size, 0, none⟩ (.slice a 4 cap)).setCell ⟨w.heap.size, 1, none⟩ (.slice none 0 0)) w.heap.size w1.heap.size a 4 [0, 0, 0, 0]) := (Own.kept ho fun j h1 h2 => pair_other _ _ (by have : w.heap.size < (w.alloc (.cells #[.slice none 0 0, .slice none 0 0] 33)).heap.size := by { show _ < (w.heap.push _).size; simp }; omega)).more (by show _ ≤ (w.heap.push _).size; simp) (Nat.le_refl _)
  have HBf := Lib.hid ((HB.out.setCell (p := ⟨w.heap.size, 0, none⟩) (Nat.le_refl _) (.slice a 4 cap)).setCell (p := ⟨w.heap.size, 1, none⟩) (Nat.le_refl _) (.slice none 0 0))
  have hsz := pair_size w1 w.heap.size (.slice a 4 cap) (.slice none 0 0)
  clear hx hb ho
  go_wp2
  generalize (w1.setCell ⟨w.heap.size, 0, none⟩ (.slice a 4 cap)).setCell ⟨w.heap.size, 1, none⟩ (.slice none 0 0) = wf at HX HO HBf hsz ⊢
  obtain ⟨d0, d1⟩ := pair_cells HX.out
  exact bodyPost_ret (v := .agg #[.slice a 4 cap, .slice none 0 0]) (by simp [results, Try.results28, go_sem, d0, d1]) rfl ⟨a, cap, rfl, HO.out.more (Nat.le_refl _) (Nat.le_of_eq hsz.symm), HBf.out⟩
theorem eqNil (w : World) : Calls Try.prog 65 #[.slice none 0 0, .slice none 0 0] w fun e w' => e = .returned (.bool true) ∧ w = w' := by
  go_enter Try.func65, Try.ntmps65
  go_wp2
  go_loop [5] (fun i => i = .int .i64 0) (fun _ => 0)
  case atStart => rfl
  case round =>
    subst hrel
    go_wp2
    go_ret
    exact ⟨rfl, rfl⟩
theorem markNil (k : Int) (w : World) : Calls Try.prog 67 #[.slice none 0 0, .int .i64 k] w fun e w' => e = .returned (.int .i64 k) ∧ w = w' := by
  go_enter Try.func67, Try.ntmps67
  go_wp2
  go_loop [5, 1] (fun i m => i = .int .i64 0 ∧ m = .int .i64 k) (fun _ _ => 0)
  case atStart => exact ⟨rfl, rfl⟩
  case round =>
    obtain ⟨rfl, rfl⟩ := hrel
    go_wp2
    go_ret
    exact ⟨rfl, rfl⟩
theorem heldNil (k : Int) (w : World) : Calls Try.prog 69 #[.slice none 0 0, .int .i64 k] w fun e w' => e = .returned (.int .i64 k) ∧ w = w' := by
  go_enter Try.func69, Try.ntmps69
  go_wp2
  go_loop [5, 1] (fun i m => i = .int .i64 0 ∧ m = .int .i64 k) (fun _ _ => 0)
  case atStart => exact ⟨rfl, rfl⟩
  case round =>
    obtain ⟨rfl, rfl⟩ := hrel
    go_wp2
    go_ret
    exact ⟨rfl, rfl⟩
set_option maxRecDepth 100000 in
theorem eqCartNil (w : World) (B B' : Nat) (a a' : Option Addr) (cap cap' : Nat) (xs : List Int) (h : Ints w B a 4 xs) (h' : Ints w B' a' 4 xs) (hB : B ≤ w.heap.size) (hB' : B' ≤ w.heap.size) : Calls Try.prog 29 #[.agg #[.slice a 4 cap, .slice none 0 0], .agg #[.slice a' 4 cap', .slice none 0 0]] w fun e w' => e = .returned (.bool true) ∧ Below w.heap.size w w' := by
  have hb2 : Below w.heap.size w ((w.alloc (.cells #[.slice a 4 cap, .slice none 0 0] 33)).alloc (.cells #[.slice a' 4 cap', .slice none 0 0] 33)) := ((Below.refl _ w).alloc (Nat.le_refl _) _).alloc (by show _ ≤ (w.heap.push _).size; simp) _
  have H := Lib.hid (h.below hb2 hB)
  have H' := Lib.hid (h'.below hb2 hB')
  have HB := Lib.hid hb2
  clear h h' hb2
  go_enter Try.func29, Try.ntmps29
  go_wp2_with fail
  refine (eqInts _ _ _ _ _ _ _ _ _ xs xs H.out H'.out (by omega) (by omega)).mono ?_
  rintro e w1 ⟨rfl, n, rfl⟩
  rw [decide_eq_true rfl]
  go_wp2_with fail
  refine (eqNil _).mono ?_
  rintro e w' ⟨rfl, rfl⟩
  go_wp2
  go_ret
  exact ⟨rfl, ⟨HB.out.os, HB.out.tape, HB.out.output, HB.out.size, HB.out.block⟩⟩
set_option maxRecDepth 100000 in
theorem markCartNil (w : World) (lo hi : Nat) (a : Option Addr) (cap : Nat) (xs : List Int) (h : Own w lo hi a 4 xs) (hlo : lo ≤ hi) (hh : hi ≤ w.heap.size) : Calls Try.prog 30 #[.agg #[.slice a 4 cap, .slice none 0 0], .int .i64 1] w fun e w' => e = .returned (.int .i64 5) ∧ Own w' lo hi a 4 (marks 1 4) ∧ w.heap.size ≤ w'.heap.size ∧ (w'.os = w.os ∧ w'.tape = w.tape ∧ w'.output = w.output) ∧ ∀ j, j < lo ∨ (hi ≤ j ∧ j < w.heap.size) → w'.heap[j]? = w.heap[j]? := by
  have hb2 : Below w.heap.size w (w.alloc (.cells #[.slice a 4 cap, .slice none 0 0] 33)) := (Below.refl _ w).alloc (Nat.le_refl _) _
  have H := Lib.hid (h.below hb2 hh)
  have HB := Lib.hid hb2
  have HX := Lib.hid (boxAt (Below.refl _ (w.alloc (.cells #[.slice a 4 cap, .slice none 0 0] 33))))
  clear h hb2
  go_enter Try.func30, Try.ntmps30
  go_wp2_with fail
  refine (mark _ lo hi a 4 cap xs H.out 1 (by omega) (by omega)).mono ?_
  rintro e w1 ⟨⟨m, hm, rfl⟩, ho, hO⟩
  have hm' : m = 5 := hm
  subst hm'
  have hx : w1.heap[w.heap.size]? = some (.cells #[.slice a 4 cap, .slice none 0 0] 33 (0, 0)) := (hO.block _ (.inr (by omega))).trans HX.out
  obtain ⟨c0, c1⟩ := pair_cells hx
  have HO := Lib.hid ho
  have HS := Lib.hid hO
  clear ho hO hx hm
  go_wp2_with fail
  refine (markNil _ _).mono ?_
  rintro e w' ⟨rfl, rfl⟩
  go_wp2
  go_ret
  exact ⟨rfl, HO.out, Nat.le_trans HB.out.size (Nat.le_of_eq HS.out.size.symm), ⟨HS.out.os.trans HB.out.os, HS.out.tape.trans HB.out.tape, HS.out.output.trans HB.out.output⟩, fun j hj => (HS.out.block j (by omega)).trans (HB.out.block j (by omega))⟩
set_option maxRecDepth 100000 in
theorem heldCartNil (w : World) (B : Nat) (a : Option Addr) (cap : Nat) (h : Ints w B a 4 (marks 1 4)) (hB : B ≤ w.heap.size) : Calls Try.prog 31 #[.agg #[.slice a 4 cap, .slice none 0 0], .int .i64 1] w fun e w' => e = .returned (.int .i64 5) ∧ Below w.heap.size w w' := by
  have hb2 : Below w.heap.size w (w.alloc (.cells #[.slice a 4 cap, .slice none 0 0] 33)) := (Below.refl _ w).alloc (Nat.le_refl _) _
  have H := Lib.hid (h.below hb2 hB)
  have HB := Lib.hid hb2
  clear h hb2
  go_enter Try.func31, Try.ntmps31
  go_wp2_with fail
  refine (held _ _ a 4 cap 1 H.out (by omega) (by omega)).mono ?_
  rintro e w1 ⟨rfl, rfl⟩
  go_wp2_with fail
  refine (heldNil _ _).mono ?_
  rintro e w' ⟨rfl, rfl⟩
  go_wp2
  go_ret
  exact ⟨rfl, HB.out⟩
/-- A cart's variable at block b. -/
def CartBox (w : World) (b : Nat) (a : Option Addr) (cap : Nat) : Prop := w.heap[b]? = some (.cells #[.slice a 4 cap, .slice none 0 0] 33 (0, 0))
theorem CartBox.lt {w : World} {b : Nat} {a : Option Addr} {cap : Nat} (h : CartBox w b a cap) : b < w.heap.size := (Array.getElem?_eq_some_iff.1 h).1
theorem CartBox.below {w w' : World} {b : Nat} {a : Option Addr} {cap : Nat} (h : CartBox w b a cap) (hb : Below w.heap.size w w') : CartBox w' b a cap := (hb.block _ h.lt).trans h

set_option maxRecDepth 100000 in
set_option maxHeartbeats 2000000 in
theorem fnExactCartNewWalk (w : World) : Calls Try.prog 8 #[] w fun e w' => e = .returned (.bool true) ∧ Below w.heap.size w w' := by
  go_enter Try.func8, Try.ntmps8
  go_wp2_with fail
  refine (specCartNew w).mono ?_
  rintro e w1 ⟨a1, c1, rfl, ho1, hb1⟩
  have L1 := Lib.hid ho1
  have BB := Lib.hid hb1
  have hwn : w.heap.size ≤ w1.heap.size := hb1.size
  clear ho1 hb1
  go_upto_region 2 with fail
  have hal : Below w1.heap.size w1 (w1.alloc (.cells #[.slice a1 4 c1, .slice none 0 0] 33)) := (Below.refl _ _).alloc (Nat.le_refl _) _
  have K1 : Hid (CartBox (w1.alloc (.cells #[.slice a1 4 c1, .slice none 0 0] 33)) w1.heap.size a1 c1) := boxAt (Below.refl _ _)
  have L1b := Lib.hid (L1.out.below hal (Nat.le_refl _))
  have BB2 := Lib.hid (BB.out.trans (hal.mono BB.out.size))
  have hz : (w1.alloc (.cells #[.slice a1 4 c1, .slice none 0 0] 33)).heap.size = w1.heap.size + 1 := by show (w1.heap.push _).size = _; simp
  generalize w1.alloc (.cells #[.slice a1 4 c1, .slice none 0 0] 33) = w2 at hal K1 L1b BB2 hz ⊢
  generalize w1.heap.size = n1 at K1 L1b hz hwn ⊢
  clear hal L1 BB
  go_wp2_with fail
  refine (implCartNew w2).mono ?_
  rintro e w3 ⟨a2, c2, rfl, ho, hb⟩
  have L2 := Lib.hid ho
  have K1b := Lib.hid (K1.out.below hb)
  have L1c := Lib.hid (L1b.out.below hb (by omega))
  have BB3 := Lib.hid (BB2.out.trans (hb.mono BB2.out.size))
  have s3 : w2.heap.size ≤ w3.heap.size := hb.size
  clear ho hb K1 L1b BB2
  go_upto_region 3 with fail
  have hal : Below w3.heap.size w3 (w3.alloc (.cells #[.slice a2 4 c2, .slice none 0 0] 33)) := (Below.refl _ _).alloc (Nat.le_refl _) _
  have K2 : Hid (CartBox (w3.alloc (.cells #[.slice a2 4 c2, .slice none 0 0] 33)) w3.heap.size a2 c2) := boxAt (Below.refl _ _)
  have K1c := Lib.hid (K1b.out.below hal)
  have L1d := Lib.hid (L1c.out.below hal (by omega))
  have L2b := Lib.hid (L2.out.below hal (Nat.le_refl _))
  have BB4 := Lib.hid (BB3.out.trans (hal.mono BB3.out.size))
  have hz4 : (w3.alloc (.cells #[.slice a2 4 c2, .slice none 0 0] 33)).heap.size = w3.heap.size + 1 := by show (w3.heap.push _).size = _; simp
  generalize w3.alloc (.cells #[.slice a2 4 c2, .slice none 0 0] 33) = w4 at hal K2 K1c L1d L2b BB4 hz4 ⊢
  have h23 : w2.heap.size = n1 + 1 := hz
  generalize w2.heap.size = n2 at h23 s3 L2b ⊢
  generalize w3.heap.size = n3 at K2 L2b s3 hz4 ⊢
  clear hal K1b L1c L2 BB3 hz
  have h23' : n2 ≤ n1 + 1 ∧ n1 + 1 ≤ n2 := by omega
  obtain ⟨h23a, h23b⟩ := h23'
  have hz4a : n3 + 1 ≤ w4.heap.size := by omega
  clear h23 hz4
  obtain ⟨x10, x11⟩ := pair_cells K1c.out
  obtain ⟨x20, x21⟩ := pair_cells K2.out
  go_wp2_with fail
  refine (eqCartNil w4 _ _ _ _ _ _ [0, 0, 0, 0] L2b.out.ints L1d.out.ints (by omega) (by omega)).mono ?_
  rintro e w5 ⟨rfl, hb⟩
  clear x10 x11 x20 x21
  have K1_5 := Lib.hid (K1c.out.below hb)
  have K2_5 := Lib.hid (K2.out.below hb)
  have L1_5 := Lib.hid (L1d.out.below hb (by omega))
  have L2_5 := Lib.hid (L2b.out.below hb (by omega))
  have BB_5 := Lib.hid (BB4.out.trans (hb.mono BB4.out.size))
  have hzz5 : w4.heap.size ≤ w5.heap.size := hb.size
  clear hb K1c K2 L1d L2b BB4
  obtain ⟨x20, x21⟩ := pair_cells K2_5.out
  go_wp2_with fail
  refine (markCartNil w5 n2 n3 _ _ _ L2_5.out (by omega) (by omega)).mono ?_
  rintro e w6 ⟨rfl, hom, hsm, ⟨hm1, hm2, hm3⟩, hbm⟩
  clear x20 x21
  have K1_m : Hid (CartBox w6 n1 a1 c1) := (hbm _ (.inl (by omega))).trans K1_5.out
  have K2_m : Hid (CartBox w6 n3 a2 c2) := (hbm _ (.inr ⟨Nat.le_refl _, by omega⟩)).trans K2_5.out
  have L1_m := Lib.hid (L1_5.out.kept fun j h1 h2 => hbm j (.inl (by omega)))
  have L2_m := Lib.hid hom
  skip
  have BB_m : Hid (Below w.heap.size w w6) := ⟨hm1.trans BB_5.out.os, hm2.trans BB_5.out.tape, hm3.trans BB_5.out.output, Nat.le_trans BB_5.out.size hsm, fun j hj => (hbm j (.inl (by omega))).trans (BB_5.out.block j hj)⟩
  have hzm : w5.heap.size ≤ w6.heap.size := hsm
  clear hom hsm hm1 hm2 hm3 hbm K1_5 K2_5 L1_5 L2_5 BB_5
  obtain ⟨x20, x21⟩ := pair_cells K2_m.out
  go_wp2_with fail
  refine (heldCartNil w6 _ _ _ L2_m.out.ints (by omega)).mono ?_
  rintro e w7 ⟨rfl, hb⟩
  clear x20 x21
  have K1_7 := Lib.hid (K1_m.out.below hb)
  have K2_7 := Lib.hid (K2_m.out.below hb)
  have L1_7 := Lib.hid (L1_m.out.below hb (by omega))
  have L2_7 := Lib.hid (L2_m.out.below hb (by omega))
  have BB_7 := Lib.hid (BB_m.out.trans (hb.mono BB_m.out.size))
  have hzz7 : w6.heap.size ≤ w7.heap.size := hb.size
  clear hb K1_m K2_m L1_m L2_m BB_m
  go_wp2_with fail
  refine (implCartNew w7).mono ?_
  rintro e w8 ⟨a3, c3, rfl, ho, hb⟩
  have L3 := Lib.hid ho
  clear ho
  have K1_8 := Lib.hid (K1_7.out.below hb)
  have K2_8 := Lib.hid (K2_7.out.below hb)
  have L1_8 := Lib.hid (L1_7.out.below hb (by omega))
  have L2_8 := Lib.hid (L2_7.out.below hb (by omega))
  have BB_8 := Lib.hid (BB_7.out.trans (hb.mono BB_7.out.size))
  have hzz8 : w7.heap.size ≤ w8.heap.size := hb.size
  clear hb K1_7 K2_7 L1_7 L2_7 BB_7
  go_upto_region 14 with fail
  have hb : Below w8.heap.size w8 (w8.alloc (.cells #[.slice a3 4 c3, .slice none 0 0] 33)) := (Below.refl _ _).alloc (Nat.le_refl _) _
  have K3 : Hid (CartBox (w8.alloc (.cells #[.slice a3 4 c3, .slice none 0 0] 33)) w8.heap.size a3 c3) := boxAt (Below.refl _ _)
  have L3b := Lib.hid (L3.out.below hb (Nat.le_refl _))
  generalize w8.alloc (.cells #[.slice a3 4 c3, .slice none 0 0] 33) = w9 at hb K3 L3b ⊢
  have K1_9 := Lib.hid (K1_8.out.below hb)
  have K2_9 := Lib.hid (K2_8.out.below hb)
  have L1_9 := Lib.hid (L1_8.out.below hb (by omega))
  have L2_9 := Lib.hid (L2_8.out.below hb (by omega))
  have BB_9 := Lib.hid (BB_8.out.trans (hb.mono BB_8.out.size))
  have hzz9 : w8.heap.size ≤ w9.heap.size := hb.size
  clear hb K1_8 K2_8 L1_8 L2_8 BB_8
  obtain ⟨x10, x11⟩ := pair_cells K1_9.out
  obtain ⟨x30, x31⟩ := pair_cells K3.out
  go_wp2_with fail
  refine (eqCartNil w9 _ _ _ _ _ _ [0, 0, 0, 0] L3b.out.ints L1_9.out.ints (by omega) (by omega)).mono ?_
  rintro e w10 ⟨rfl, hb⟩
  clear x10 x11 x30 x31
  have K1_10 := Lib.hid (K1_9.out.below hb)
  have K2_10 := Lib.hid (K2_9.out.below hb)
  have L1_10 := Lib.hid (L1_9.out.below hb (by omega))
  have L2_10 := Lib.hid (L2_9.out.below hb (by omega))
  have BB_10 := Lib.hid (BB_9.out.trans (hb.mono BB_9.out.size))
  have hzz10 : w9.heap.size ≤ w10.heap.size := hb.size
  clear hb K1_9 K2_9 L1_9 L2_9 BB_9
  obtain ⟨x20, x21⟩ := pair_cells K2_10.out
  go_wp2_with fail
  refine (heldCartNil w10 _ _ _ L2_10.out.ints (by omega)).mono ?_
  rintro e w11 ⟨rfl, hb⟩
  clear x20 x21
  have K1_11 := Lib.hid (K1_10.out.below hb)
  have K2_11 := Lib.hid (K2_10.out.below hb)
  have L1_11 := Lib.hid (L1_10.out.below hb (by omega))
  have L2_11 := Lib.hid (L2_10.out.below hb (by omega))
  have BB_11 := Lib.hid (BB_10.out.trans (hb.mono BB_10.out.size))
  have hzz11 : w10.heap.size ≤ w11.heap.size := hb.size
  clear hb K1_10 K2_10 L1_10 L2_10 BB_10
  go_wp2
  go_ret
  exact ⟨rfl, BB_11.out⟩
end Go.Proofs.Ytjcfekljdkaaiab
