/- The walks of impl.ReadText, with its deferred closure, of spec.ReadText, and of the law on them. -/
import Derived.Test.YtjcfekljdkaaiaaDoorWordW
import Derived.Test.YtjcfekljdkaaiaaDoorReadLawW
namespace Go.Proofs.YtjcfekljdkaaiaaDoor
open Go.RowKit

def TxtPost (s : ByteArray) (w : World) (e : Ending) (w' : World) : Prop :=
  Below w.heap.size w w' ∧ ((TxtOk s ∧ e = .returned (.tuple #[.string (txt s), .int .i64 (txtEnd s : Int), .bool true])) ∨ (¬ TxtOk s ∧ e = .returned (.tuple #[.string ⟨#[]⟩, .int .i64 0, .bool false])))
set_option maxRecDepth 100000 in
theorem catchText (w : World) (a b c : Nat) (x y z : Value) (u : TypeId) (pv : Value) (older : List PanicEntry) (hab : a ≠ b) (hac : a ≠ c) (hbc : b ≠ c)
    (h1 : w.cell? ⟨a, 0, none⟩ = some x) (h2 : w.cell? ⟨b, 0, none⟩ = some y) (h3 : w.cell? ⟨c, 0, none⟩ = some z) (f1 : w.frozen? ⟨a, 0, none⟩ = false) (f2 : w.frozen? ⟨b, 0, none⟩ = false) (f3 : w.frozen? ⟨c, 0, none⟩ = false) :
    CallsD Tryd.prog 54 #[.pointer (some ⟨a, 0, none⟩), .pointer (some ⟨b, 0, none⟩), .pointer (some ⟨c, 0, none⟩)] (.panicking ({ v := .iface u pv, recovered := false } :: older)) w fun e u' w' =>
      e = .returned (.tuple #[]) ∧ u' = .panicking ({ v := .iface u pv, recovered := true } :: older) ∧ w' = ((w.setCell ⟨a, 0, none⟩ (.string ⟨#[]⟩)).setCell ⟨b, 0, none⟩ (.int .i64 0)).setCell ⟨c, 0, none⟩ (.bool false) := by
  refine callsD_of_wpS Tryd.func54 rfl fun c₀ cs hu => ?_
  apply wpS_seq
  apply wpS_region
  simp [wpOpsS, go_sem, recoverD, hu, Tryd.ntmps54, Exit.thenS]
  refine wpS_cond (t := true) (by simp [Act.eval, Array.replicate]) ?_
  simp only [if_true]
  apply wpS_region
  have c2 : (w.setCell ⟨a, 0, none⟩ (.string ⟨#[]⟩)).cell? ⟨b, 0, none⟩ = some y := by rw [World.cell?_setCell_other _ _ _ _ (addr_ne hab)]; exact h2
  have c3 : ((w.setCell ⟨a, 0, none⟩ (.string ⟨#[]⟩)).setCell ⟨b, 0, none⟩ (.int .i64 0)).cell? ⟨c, 0, none⟩ = some z := by rw [World.cell?_setCell_other _ _ _ _ (addr_ne hbc), World.cell?_setCell_other _ _ _ _ (addr_ne hac)]; exact h3
  simp [wpOpsS, go_sem, h1, c2, c3, f1, f2, f3, bodyPostS, results, Tryd.results54]
theorem idleText (w : World) (a b c : Nat) :
    CallsD Tryd.prog 54 #[.pointer (some ⟨a, 0, none⟩), .pointer (some ⟨b, 0, none⟩), .pointer (some ⟨c, 0, none⟩)] .returning w fun e u' w' => e = .returned (.tuple #[]) ∧ u' = .returning ∧ w' = w := by
  refine callsD_of_wpS Tryd.func54 rfl fun c₀ cs hu => ?_
  apply wpS_seq
  apply wpS_region
  simp [wpOpsS, go_sem, recoverD, hu, Tryd.ntmps54, Exit.thenS]
  refine wpS_cond (t := false) (by simp [Act.eval, Array.replicate]) ?_
  simp only [Bool.false_eq_true, if_false]
  refine wpS_of_wp (wp_skip ?_)
  cases c₀
  simp_all [bodyPostS, results, Tryd.results54]

set_option maxRecDepth 100000 in
theorem implReadText (s : ByteArray) (w : World) (u : TypeId) (x : Value) (hs : s.size ≤ 1048576) (hE : Sent w u x) :
    Calls Tryd.prog 20 #[.string s] w (TxtPost s w) := by
  have hmf : ∀ (fn : Fn) (first cap : Array Value) (w : World), (Instr.makeFunc fn first cap).run Tryd.prog w = .ok (.func fn first cap) w := fun _ _ _ _ => rfl
  have HE := Lib.hid hE
  clear hE
  go_enter_defers Tryd.func20, Tryd.ntmps20
  go_wp2_with fail
  have hb0 : 0 < w.heap.size := block_lt_of_cell HE.out
  have F := four w (.cells #[.string ⟨#[]⟩] 9) (.cells #[.int .i64 0] 2) (.cells #[.bool false] 4) (.cells #[.string s, .int .i64 0] 58)
  refine (word _ _ s u x hs F.h3 ((F.bel.cell hb0).trans HE.out) (by omega)).mono ?_
  have H0 := Lib.hid F.h0
  have H1 := Lib.hid F.h1
  have H2 := Lib.hid F.h2
  have HB := Lib.hid F.bel
  have hsz := Lib.hid F.size
  clear F
  rintro e w1 ⟨hg1, hcase⟩
  have g0 := (hg1.block w.heap.size (by have := hsz.out; omega) (by simp <;> omega)).trans H0.out
  have g1 := (hg1.block (w.heap.size + 1) (by have := hsz.out; omega) (by simp <;> omega)).trans H1.out
  have g2 := (hg1.block (w.heap.size + 1 + 1) (by have := hsz.out; omega) (by simp)).trans H2.out
  have HB1 := Lib.hid (HB.out.grown hg1 (by have := hsz.out; omega) (fun k hk => by injection hk with hk; omega))
  clear hg1 H0 H1 H2 HB hsz
  have c0 : w1.cell? ⟨w.heap.size, 0, none⟩ = some (.string ⟨#[]⟩) := cell_of_row _ _ _ _ _ _ g0
  have c1 : w1.cell? ⟨w.heap.size + 1, 0, none⟩ = some (.int .i64 0) := cell_of_row _ _ _ _ _ _ g1
  have c2 : w1.cell? ⟨w.heap.size + 1 + 1, 0, none⟩ = some (.bool false) := cell_of_row _ _ _ _ _ _ g2
  have f0 : w1.frozen? ⟨w.heap.size, 0, none⟩ = false := frozen_of_row _ _ _ _ _ g0
  have f1 : w1.frozen? ⟨w.heap.size + 1, 0, none⟩ = false := frozen_of_row _ _ _ _ _ g1
  have f2 : w1.frozen? ⟨w.heap.size + 1 + 1, 0, none⟩ = false := frozen_of_row _ _ _ _ _ g2
  clear g0 g1 g2
  obtain ⟨ht, rfl, hr1⟩ | ⟨rfl, hx⟩ := hcase
  · have c3 : w1.cell? ⟨w.heap.size + 1 + 1 + 1, 1, none⟩ = some (.int .i64 (txtEnd s : Int)) := cell_of_row _ _ _ _ _ _ hr1
    clear hr1
    go_wp2
    go_region
    go_wp2
    refine leaves_cons (f := 54) (args := #[.pointer (some ⟨w.heap.size, 0, none⟩), .pointer (some ⟨w.heap.size + 1, 0, none⟩), .pointer (some ⟨w.heap.size + 1 + 1, 0, none⟩)]) (by simp) (by simp [go_sem]) ?_
    refine (idleText _ _ _ _).mono ?_
    rintro e u' w'' ⟨rfl, rfl, rfl⟩
    have d0 := World.cell?_setCell_same w1 ⟨w.heap.size, 0, none⟩ (.string (txt s)) c0
    have d1 : (w1.setCell ⟨w.heap.size, 0, none⟩ (.string (txt s))).cell? ⟨w.heap.size + 1, 0, none⟩ = _ := (World.cell?_setCell_other _ _ _ _ (addr_ne (by omega))).trans c1
    have d2 : (w1.setCell ⟨w.heap.size, 0, none⟩ (.string (txt s))).cell? ⟨w.heap.size + 1 + 1, 0, none⟩ = _ := (World.cell?_setCell_other _ _ _ _ (addr_ne (by omega))).trans c2
    have HB2 := HB1.out.setCell (p := ⟨w.heap.size, 0, none⟩) (by simp) (.string (txt s))
    generalize w1.setCell ⟨w.heap.size, 0, none⟩ (.string (txt s)) = w2 at d0 d1 d2 HB2 ⊢
    obtain ⟨k0, k1, k2⟩ := three w2 w.heap.size (w.heap.size + 1) (w.heap.size + 1 + 1) _ _ _ (.string (txt s)) (.int .i64 (txtEnd s : Int)) (.bool true) (by omega) (by omega) (by omega) d0 d1 d2
    have HB3 := (((HB2.setCell (p := ⟨w.heap.size, 0, none⟩) (by simp) (.string (txt s))).setCell (p := ⟨w.heap.size + 1, 0, none⟩) (by simp) (.int .i64 (txtEnd s : Int))).setCell (p := ⟨w.heap.size + 1 + 1, 0, none⟩) (by simp; omega) (.bool true)).drew
    rw [← World.cell?_drew] at k0 k1 k2
    generalize (((w2.setCell ⟨w.heap.size, 0, none⟩ (.string (txt s))).setCell ⟨w.heap.size + 1, 0, none⟩ (.int .i64 (txtEnd s : Int))).setCell ⟨w.heap.size + 1 + 1, 0, none⟩ (.bool true)).drew = w3 at k0 k1 k2 HB3 ⊢
    simp [Leaves, settle, results, Tryd.results20, go_sem, k0, k1, k2]
    exact ⟨HB3, .inl ⟨ht, rfl⟩⟩
  · unfold Thrown
    refine leaves_cons (f := 54) (args := #[.pointer (some ⟨w.heap.size, 0, none⟩), .pointer (some ⟨w.heap.size + 1, 0, none⟩), .pointer (some ⟨w.heap.size + 1 + 1, 0, none⟩)]) (by simp) (by simp [go_sem]) ?_
    refine (catchText _ _ _ _ _ _ _ _ _ [] (by omega) (by omega) (by omega) c0 c1 c2 f0 f1 f2).mono ?_
    rintro e u' w'' ⟨rfl, rfl, rfl⟩
    obtain ⟨k0, k1, k2⟩ := three w1 w.heap.size (w.heap.size + 1) (w.heap.size + 1 + 1) _ _ _ (.string ⟨#[]⟩) (.int .i64 0) (.bool false) (by omega) (by omega) (by omega) c0 c1 c2
    have HB2 := ((HB1.out.setCell (p := ⟨w.heap.size, 0, none⟩) (by simp) (.string ⟨#[]⟩)).setCell (p := ⟨w.heap.size + 1, 0, none⟩) (by simp) (.int .i64 0)).setCell (p := ⟨w.heap.size + 1 + 1, 0, none⟩) (by simp; omega) (.bool false)
    generalize ((w1.setCell ⟨w.heap.size, 0, none⟩ (.string ⟨#[]⟩)).setCell ⟨w.heap.size + 1, 0, none⟩ (.int .i64 0)).setCell ⟨w.heap.size + 1 + 1, 0, none⟩ (.bool false) = w2 at k0 k1 k2 HB2 ⊢
    simp [Leaves, settle, results, Tryd.results20, go_sem, k0, k1, k2]
    exact ⟨HB2, .inr ⟨hx, rfl⟩⟩
end Go.Proofs.YtjcfekljdkaaiaaDoor
