/- The walk of impl.ReadVar, with its deferred closure. -/
import Derived.Test.YtjcfekljdkaaiaaDoorNumW
import Derived.Defers
import Derived.Recover
import Derived.Laws.Pointers
namespace Go.Proofs.YtjcfekljdkaaiaaDoor
open Go.RowKit

theorem addr_ne {a b : Nat} (h : a ≠ b) : (⟨a, 0, none⟩ : Addr) ≠ ⟨b, 0, none⟩ := fun e => h (congrArg Addr.block e)
set_option maxRecDepth 100000 in
theorem catchVar (w : World) (a b c : Nat) (x y z : Value) (u : TypeId) (pv : Value) (older : List PanicEntry) (hab : a ≠ b) (hac : a ≠ c) (hbc : b ≠ c)
    (h1 : w.cell? ⟨a, 0, none⟩ = some x) (h2 : w.cell? ⟨b, 0, none⟩ = some y) (h3 : w.cell? ⟨c, 0, none⟩ = some z) (f1 : w.frozen? ⟨a, 0, none⟩ = false) (f2 : w.frozen? ⟨b, 0, none⟩ = false) (f3 : w.frozen? ⟨c, 0, none⟩ = false) :
    CallsD Tryd.prog 51 #[.pointer (some ⟨a, 0, none⟩), .pointer (some ⟨b, 0, none⟩), .pointer (some ⟨c, 0, none⟩)] (.panicking ({ v := .iface u pv, recovered := false } :: older)) w fun e u' w' =>
      e = .returned (.tuple #[]) ∧ u' = .panicking ({ v := .iface u pv, recovered := true } :: older) ∧ w' = ((w.setCell ⟨a, 0, none⟩ (.int .i64 0)).setCell ⟨b, 0, none⟩ (.int .i64 0)).setCell ⟨c, 0, none⟩ (.bool false) := by
  refine callsD_of_wpS Tryd.func51 rfl fun c₀ cs hu => ?_
  apply wpS_seq
  apply wpS_region
  simp [wpOpsS, go_sem, recoverD, hu, Tryd.ntmps51, Exit.thenS]
  refine wpS_cond (t := true) (by simp [Act.eval, Array.replicate]) ?_
  simp only [if_true]
  apply wpS_region
  have c2 : (w.setCell ⟨a, 0, none⟩ (.int .i64 0)).cell? ⟨b, 0, none⟩ = some y := by rw [World.cell?_setCell_other _ _ _ _ (addr_ne hab)]; exact h2
  have c3 : ((w.setCell ⟨a, 0, none⟩ (.int .i64 0)).setCell ⟨b, 0, none⟩ (.int .i64 0)).cell? ⟨c, 0, none⟩ = some z := by rw [World.cell?_setCell_other _ _ _ _ (addr_ne hbc), World.cell?_setCell_other _ _ _ _ (addr_ne hac)]; exact h3
  simp [wpOpsS, go_sem, h1, c2, c3, f1, f2, f3, bodyPostS, results, Tryd.results51]
theorem idleVar (w : World) (a b c : Nat) :
    CallsD Tryd.prog 51 #[.pointer (some ⟨a, 0, none⟩), .pointer (some ⟨b, 0, none⟩), .pointer (some ⟨c, 0, none⟩)] .returning w fun e u' w' => e = .returned (.tuple #[]) ∧ u' = .returning ∧ w' = w := by
  refine callsD_of_wpS Tryd.func51 rfl fun c₀ cs hu => ?_
  apply wpS_seq
  apply wpS_region
  simp [wpOpsS, go_sem, recoverD, hu, Tryd.ntmps51, Exit.thenS]
  refine wpS_cond (t := false) (by simp [Act.eval, Array.replicate]) ?_
  simp only [Bool.false_eq_true, if_false]
  refine wpS_of_wp (wp_skip ?_)
  cases c₀
  simp_all [bodyPostS, results, Tryd.results51]

theorem alloc_size (w : World) (A : Obj) : (w.alloc A).heap.size = w.heap.size + 1 := by
  show (w.heap.push A).size = _
  simp
theorem three (w : World) (a b c : Nat) (x y z x' y' z' : Value) (hab : a ≠ b) (hac : a ≠ c) (hbc : b ≠ c) (h1 : w.cell? ⟨a, 0, none⟩ = some x) (h2 : w.cell? ⟨b, 0, none⟩ = some y) (h3 : w.cell? ⟨c, 0, none⟩ = some z) :
    (((w.setCell ⟨a, 0, none⟩ x').setCell ⟨b, 0, none⟩ y').setCell ⟨c, 0, none⟩ z').cell? ⟨a, 0, none⟩ = some x' ∧ (((w.setCell ⟨a, 0, none⟩ x').setCell ⟨b, 0, none⟩ y').setCell ⟨c, 0, none⟩ z').cell? ⟨b, 0, none⟩ = some y' ∧ (((w.setCell ⟨a, 0, none⟩ x').setCell ⟨b, 0, none⟩ y').setCell ⟨c, 0, none⟩ z').cell? ⟨c, 0, none⟩ = some z' := by
  have e2 : (w.setCell ⟨a, 0, none⟩ x').cell? ⟨b, 0, none⟩ = some y := by rw [World.cell?_setCell_other _ _ _ _ (addr_ne hab)]; exact h2
  have e3 : ((w.setCell ⟨a, 0, none⟩ x').setCell ⟨b, 0, none⟩ y').cell? ⟨c, 0, none⟩ = some z := by rw [World.cell?_setCell_other _ _ _ _ (addr_ne hbc), World.cell?_setCell_other _ _ _ _ (addr_ne hac)]; exact h3
  refine ⟨?_, ?_, ?_⟩
  · rw [World.cell?_setCell_other _ _ _ _ (addr_ne hac.symm), World.cell?_setCell_other _ _ _ _ (addr_ne hab.symm)]; exact World.cell?_setCell_same _ _ _ h1
  · rw [World.cell?_setCell_other _ _ _ _ (addr_ne hbc.symm)]; exact World.cell?_setCell_same _ _ _ e2
  · exact World.cell?_setCell_same _ _ _ e3
/-- Four blocks laid one after another. -/
structure Four (w W : World) (A B C D : Obj) : Prop where
  h0 : W.heap[w.heap.size]? = some A
  h1 : W.heap[w.heap.size + 1]? = some B
  h2 : W.heap[w.heap.size + 1 + 1]? = some C
  h3 : W.heap[w.heap.size + 1 + 1 + 1]? = some D
  size : W.heap.size = w.heap.size + 1 + 1 + 1 + 1
  bel : Below w.heap.size w W
theorem four (w : World) (A B C D : Obj) : Four w ((((w.alloc A).alloc B).alloc C).alloc D) A B C D := by
  have e1 := alloc_size w A
  have e2 := alloc_size (w.alloc A) B
  have e3 := alloc_size ((w.alloc A).alloc B) C
  have e4 := alloc_size (((w.alloc A).alloc B).alloc C) D
  rw [e1] at e2
  rw [e2] at e3
  rw [e3] at e4
  refine ⟨?_, ?_, ?_, ?_, e4, ?_⟩
  · rw [heap_alloc_old _ D (by omega), heap_alloc_old _ C (by omega)]; exact heap_alloc2_old w A B
  · rw [heap_alloc_old _ D (by omega), heap_alloc_old _ C (by omega)]; exact heap_alloc2_new w A B
  · rw [heap_alloc_old _ D (by omega), ← e2]; exact heap_alloc_new _ C
  · rw [← e3]; exact heap_alloc_new _ D
  · exact ((((Below.refl _ w).alloc (by omega) A).alloc (by omega) B).alloc (by omega) C).alloc (by omega) D

set_option maxRecDepth 100000 in
theorem implRead (s : ByteArray) (w : World) (u : TypeId) (x : Value) (hs : s.size ≤ 1048576) (hE : Sent w u x) :
    Calls Tryd.prog 14 #[.string s] w (RdPost s.data.toList w) := by
  have hmf : ∀ (fn : Fn) (first cap : Array Value) (w : World), (Instr.makeFunc fn first cap).run Tryd.prog w = .ok (.func fn first cap) w := fun _ _ _ _ => rfl
  have HE := Lib.hid hE
  clear hE
  go_enter_defers Tryd.func14, Tryd.ntmps14
  go_wp2_with fail
  have hb0 : 0 < w.heap.size := block_lt_of_cell HE.out
  have F := four w (.cells #[.int .i64 0] 2) (.cells #[.int .i64 0] 2) (.cells #[.bool false] 4) (.cells #[.string s, .int .i64 0] 58)
  refine (number _ _ s u x hs F.h3 ((F.bel.cell hb0).trans HE.out) (by omega)).mono ?_
  have H0 := Lib.hid F.h0
  have H1 := Lib.hid F.h1
  have H2 := Lib.hid F.h2
  have HB := Lib.hid F.bel
  have hsz := Lib.hid F.size
  clear F
  rintro e w1 ⟨hg1, hcase⟩
  have g0 := (hg1.block w.heap.size (by have := hsz.out; omega) (by simp <;> omega)).trans H0.out
  have g1 := (hg1.block (w.heap.size + 1) (by have := hsz.out; omega) (by simp <;> omega)).trans H1.out
  have g2 := (hg1.block (w.heap.size + 1 + 1) (by have := hsz.out; omega) (by simp)).trans H2.out
  have HB1 := Lib.hid (HB.out.grown hg1 (by have := hsz.out; omega) (fun k hk => by injection hk with hk; omega))
  clear hg1 H0 H1 H2 HB hsz
  have c0 : w1.cell? ⟨w.heap.size, 0, none⟩ = some (.int .i64 0) := cell_of_row _ _ _ _ _ _ g0
  have c1 : w1.cell? ⟨w.heap.size + 1, 0, none⟩ = some (.int .i64 0) := cell_of_row _ _ _ _ _ _ g1
  have c2 : w1.cell? ⟨w.heap.size + 1 + 1, 0, none⟩ = some (.bool false) := cell_of_row _ _ _ _ _ _ g2
  have f0 : w1.frozen? ⟨w.heap.size, 0, none⟩ = false := frozen_of_row _ _ _ _ _ g0
  have f1 : w1.frozen? ⟨w.heap.size + 1, 0, none⟩ = false := frozen_of_row _ _ _ _ _ g1
  have f2 : w1.frozen? ⟨w.heap.size + 1 + 1, 0, none⟩ = false := frozen_of_row _ _ _ _ _ g2
  clear g0 g1 g2
  obtain ⟨rfl, hr1, ht⟩ | ⟨rfl, hx⟩ := hcase
  · have c3 : w1.cell? ⟨w.heap.size + 1 + 1 + 1, 1, none⟩ = some (.int .i64 ((rd s.data.toList).2.1 : Int)) := cell_of_row _ _ _ _ _ _ hr1
    clear hr1
    go_wp2
    go_region
    go_wp2
    refine leaves_cons (f := 51) (args := #[.pointer (some ⟨w.heap.size, 0, none⟩), .pointer (some ⟨w.heap.size + 1, 0, none⟩), .pointer (some ⟨w.heap.size + 1 + 1, 0, none⟩)]) (by simp) (by simp [go_sem]) ?_
    refine (idleVar _ _ _ _).mono ?_
    rintro e u' w'' ⟨rfl, rfl, rfl⟩
    have d0 := World.cell?_setCell_same w1 ⟨w.heap.size, 0, none⟩ (.int .i64 ((rd s.data.toList).1 : Int)) c0
    have d1 : (w1.setCell ⟨w.heap.size, 0, none⟩ (.int .i64 ((rd s.data.toList).1 : Int))).cell? ⟨w.heap.size + 1, 0, none⟩ = _ := (World.cell?_setCell_other _ _ _ _ (addr_ne (by omega))).trans c1
    have d2 : (w1.setCell ⟨w.heap.size, 0, none⟩ (.int .i64 ((rd s.data.toList).1 : Int))).cell? ⟨w.heap.size + 1 + 1, 0, none⟩ = _ := (World.cell?_setCell_other _ _ _ _ (addr_ne (by omega))).trans c2
    have HB2 := HB1.out.setCell (p := ⟨w.heap.size, 0, none⟩) (by simp) (.int .i64 ((rd s.data.toList).1 : Int))
    generalize w1.setCell ⟨w.heap.size, 0, none⟩ (.int .i64 ((rd s.data.toList).1 : Int)) = w2 at d0 d1 d2 HB2 ⊢
    obtain ⟨k0, k1, k2⟩ := three w2 w.heap.size (w.heap.size + 1) (w.heap.size + 1 + 1) _ _ _ (.int .i64 ((rd s.data.toList).1 : Int)) (.int .i64 ((rd s.data.toList).2.1 : Int)) (.bool true) (by omega) (by omega) (by omega) d0 d1 d2
    have HB3 := (((HB2.setCell (p := ⟨w.heap.size, 0, none⟩) (by simp) (.int .i64 ((rd s.data.toList).1 : Int))).setCell (p := ⟨w.heap.size + 1, 0, none⟩) (by simp) (.int .i64 ((rd s.data.toList).2.1 : Int))).setCell (p := ⟨w.heap.size + 1 + 1, 0, none⟩) (by simp; omega) (.bool true)).drew
    rw [← World.cell?_drew] at k0 k1 k2
    generalize (((w2.setCell ⟨w.heap.size, 0, none⟩ (.int .i64 ((rd s.data.toList).1 : Int))).setCell ⟨w.heap.size + 1, 0, none⟩ (.int .i64 ((rd s.data.toList).2.1 : Int))).setCell ⟨w.heap.size + 1 + 1, 0, none⟩ (.bool true)).drew = w3 at k0 k1 k2 HB3 ⊢
    simp [Leaves, settle, results, Tryd.results14, go_sem, k0, k1, k2]
    exact ⟨by rw [ht], HB3⟩
  · unfold Thrown
    refine leaves_cons (f := 51) (args := #[.pointer (some ⟨w.heap.size, 0, none⟩), .pointer (some ⟨w.heap.size + 1, 0, none⟩), .pointer (some ⟨w.heap.size + 1 + 1, 0, none⟩)]) (by simp) (by simp [go_sem]) ?_
    refine (catchVar _ _ _ _ _ _ _ _ _ [] (by omega) (by omega) (by omega) c0 c1 c2 f0 f1 f2).mono ?_
    rintro e u' w'' ⟨rfl, rfl, rfl⟩
    obtain ⟨k0, k1, k2⟩ := three w1 w.heap.size (w.heap.size + 1) (w.heap.size + 1 + 1) _ _ _ (.int .i64 0) (.int .i64 0) (.bool false) (by omega) (by omega) (by omega) c0 c1 c2
    have HB2 := ((HB1.out.setCell (p := ⟨w.heap.size, 0, none⟩) (by simp) (.int .i64 0)).setCell (p := ⟨w.heap.size + 1, 0, none⟩) (by simp) (.int .i64 0)).setCell (p := ⟨w.heap.size + 1 + 1, 0, none⟩) (by simp; omega) (.bool false)
    generalize ((w1.setCell ⟨w.heap.size, 0, none⟩ (.int .i64 0)).setCell ⟨w.heap.size + 1, 0, none⟩ (.int .i64 0)).setCell ⟨w.heap.size + 1 + 1, 0, none⟩ (.bool false) = w2 at k0 k1 k2 HB2 ⊢
    simp [Leaves, settle, results, Tryd.results14, go_sem, k0, k1, k2]
    exact ⟨by rw [hx]; rfl, HB2⟩
end Go.Proofs.YtjcfekljdkaaiaaDoor
