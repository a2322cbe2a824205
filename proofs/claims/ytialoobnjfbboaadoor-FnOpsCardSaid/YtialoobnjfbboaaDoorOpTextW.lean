/- What OpBytes returns for whatever operation, and the walk of spec.DrawReadOp. -/
import Derived.Test.YtialoobnjfbboaaDoorOpBytesW
import Derived.Test.YtialoobnjfbboaaDoorOpBackMath
import Derived.Test.YtialoobnjfbboaaDoorOpDraws
namespace Go.Proofs.YtialoobnjfbboaaDoor
open Go.RowKit

/-- What OpBytes returns. -/
def opT (dev seq stamp kind : Int) (item : ByteArray) (qty level undos : Int) : ByteArray := if opB dev seq stamp kind item qty level undos = true then opBytes dev seq stamp kind item qty level undos else ⟨#[]⟩
theorem implOpT (dev seq stamp kind : Int) (item : ByteArray) (qty level undos : Int) (w : World) : Calls Tryd.prog 6 #[.agg #[.int .i64 dev, .int .i64 seq, .int .i64 stamp, .int .i64 kind, .string item, .int .i64 qty, .int .i64 level, .int .i64 undos]] w fun e w' => e = .returned (.string (opT dev seq stamp kind item qty level undos)) ∧ Below w.heap.size w w' := by
  unfold opT
  by_cases h : opB dev seq stamp kind item qty level undos = true
  · rw [if_pos h]; exact implBytes dev seq stamp kind item qty level undos w h
  · rw [if_neg h]; exact implBytesNo dev seq stamp kind item qty level undos w (by simpa using h)
theorem specOpT (dev seq stamp kind : Int) (item : ByteArray) (qty level undos : Int) (w : World) (hs : item.size ≤ 1048576) : Calls Tryd.prog 11 #[.agg #[.int .i64 dev, .int .i64 seq, .int .i64 stamp, .int .i64 kind, .string item, .int .i64 qty, .int .i64 level, .int .i64 undos]] w fun e w' => e = .returned (.string (opT dev seq stamp kind item qty level undos)) ∧ Below w.heap.size w w' := by
  unfold opT
  by_cases h : opB dev seq stamp kind item qty level undos = true
  · rw [if_pos h]; exact specBytes dev seq stamp kind item qty level undos w hs h
  · rw [if_neg h]; exact specBytesNo dev seq stamp kind item qty level undos w hs (by simpa using h)
theorem opBytes_list (dev seq stamp kind : Int) (item : ByteArray) (qty level undos : Int) : (opBytes dev seq stamp kind item qty level undos).data.toList = opList dev seq stamp kind item qty level undos := by
  unfold opBytes opList varS
  simp [strVar_list, ByteArray.data_append]
theorem opT_size (dev seq stamp kind : Int) (item : ByteArray) (qty level undos : Int) : (opT dev seq stamp kind item qty level undos).size ≤ 100 := by
  unfold opT
  by_cases h : opB dev seq stamp kind item qty level undos = true
  · rw [if_pos h]
    have k := opIn h
    have a0 := varS_size k.dev0 (by have := k.dev1; omega)
    have a1 := varS_size (n := seq) (by have := k.seq0; omega) (by have := k.seq1; omega)
    have a2 := varS_size (n := stamp) (by have := k.stamp0; omega) (by have := k.stamp1; omega)
    have a3 := varS_size (n := kind) (by have := k.kind0; omega) (by have := k.kind1; omega)
    have a5 := varS_size k.qty0 (by have := k.qty1; omega)
    have a6 := varS_size k.level0 (by have := k.level1; omega)
    have a7 := varS_size k.undos0 (by have := k.undos1; omega)
    have a4 := (text_fit (s := item) (by have := k.item8; omega)).2
    have i8 := k.item8
    unfold opBytes textBytes
    simp only [ByteArray.size_append]
    omega
  · rw [if_neg h]; decide
set_option maxRecDepth 100000 in
theorem drawReadOp (w : World) (a : Option Addr) (len cap : Nat) (h : Src w w.heap.size a len) :
    Calls Tryd.prog 8 #[.slice a len cap] w (DrawsStr 200 w) := by
  have h' := Lib.hid h
  clear h
  go_enter Tryd.func8, Tryd.ntmps8
  go_wp2_with fail
  refine (l1Open w w.heap.size a len cap (Nat.le_refl _) h'.out).mono ?_
  rintro e w1 ⟨rfl, hg1, hr1⟩
  go_wp2_with fail
  refine (rdOp w1 w.heap.size w.heap.size a len cap hr1 hg1.size).mono ?_
  rintro e w2 ⟨dev, seq, stamp, kind, item, qty, level, undos, hit, rfl, hg2, hr2⟩
  go_wp2_with fail
  refine (specOpT dev seq stamp kind item qty level undos w2 (by omega)).mono ?_
  rintro e w3 ⟨rfl, hb3⟩
  have hr3 : Rd w3 w.heap.size w.heap.size a len cap := hr2.kept fun k hk => hb3.block k (by have := hr2.lt; omega)
  have hb : Below w.heap.size w w3 := ((below_none hg1 (Nat.le_refl _)).trans (below_of hg2 (Nat.le_refl _) hg1.size)).trans (hb3.mono (Nat.le_trans hg1.size hg2.size))
  have hz := opT_size dev seq stamp kind item qty level undos
  clear hg1 hr1 hg2 hr2 hb3
  generalize opT dev seq stamp kind item qty level undos = s at hz ⊢
  go_wp2_with fail
  refine (once w3 w.heap.size w.heap.size a len cap hr3 2 (by omega) (by omega)).mono ?_
  rintro e w4 ⟨v, rfl, hg4, hr4⟩
  have hb4 : Below w.heap.size w w4 := hb.trans (below_of hg4 (Nat.le_refl _) hb.size)
  clear hr3 hg4
  cases v
  · go_wp2_with fail
    refine (bytes w4 w.heap.size w.heap.size a len cap hr4 3 (by omega)).mono ?_
    rintro e w5 ⟨t, ht, rfl, hg5, hr5⟩
    go_wp2
    go_ret
    exact ⟨_, by rw [ByteArray.size_append]; omega, rfl, hb4.trans (below_of hg5 (Nat.le_refl _) hb4.size)⟩
  · go_wp2_with fail
    refine (hurt w4 w.heap.size w.heap.size a len cap hr4 _ (by omega)).mono ?_
    rintro e w5 ⟨t, ht, rfl, hg5, hr5⟩
    go_wp2
    go_ret
    exact ⟨t, by omega, rfl, hb4.trans (below_of hg5 (Nat.le_refl _) hb4.size)⟩
end Go.Proofs.YtialoobnjfbboaaDoor
