/- The walks of impl.kindOf, impl.qtyOk, the methods levelOk, and impl.OpOk. -/
import Derived.Test.YtdbdmfaphdjdpaaItemW
import Derived.Below
import Derived.Laws.Rows
import Derived.OpenShut
namespace Go.Proofs.Ytdbdmfaphdjdpaa
open Go.RowKit

theorem boxAt {w w1 : World} {cs : Array Value} {T : TypeId} (hb : Below (w.alloc (.cells cs T)).heap.size (w.alloc (.cells cs T)) w1) : w1.heap[w.heap.size]? = some (.cells cs T (0, 0)) :=
  (hb.block _ (by show _ < (w.heap.push _).size; simp)).trans (by show (w.heap.push _)[_]? = _; simp)
theorem box_below {w w1 : World} {o : Obj} (hb : Below (w.alloc o).heap.size (w.alloc o) w1) : Below w.heap.size w w1 :=
  ((Below.refl _ w).alloc (Nat.le_refl _) o).trans (hb.mono (by show _ ≤ (w.heap.push _).size; simp))
/-- The value behind an operation's kind. -/
def kT (kind : Int) : TypeId := if kind = 1 then 199 else if kind = 2 then 202 else if kind = 3 then 203 else if kind = 4 then 204 else 205
def kV (kind : Int) : Value := .iface (kT kind) (.agg #[])

theorem kindOfYes (dev seq stamp kind : Int) (item : ByteArray) (qty level undos : Int) (w : World) (h : kindB kind = true) :
    Calls Try.prog 121 #[.agg #[.int .i64 dev, .int .i64 seq, .int .i64 stamp, .int .i64 kind, .string item, .int .i64 qty, .int .i64 level, .int .i64 undos]] w fun e w' => e = .returned (.tuple #[kV kind, .bool true]) ∧ Below w.heap.size w w' := by
  rcases kind_cases h with rfl | rfl | rfl | rfl | rfl
  · clear h
    go_enter Try.func121, Try.ntmps121
    go_wp2
    go_ret2
    exact ⟨rfl, (Below.refl _ _).alloc (Nat.le_refl _) _⟩
  · clear h
    go_enter Try.func121, Try.ntmps121
    go_wp2
    go_ret2
    exact ⟨rfl, (Below.refl _ _).alloc (Nat.le_refl _) _⟩
  · clear h
    go_enter Try.func121, Try.ntmps121
    go_wp2
    go_ret2
    exact ⟨rfl, (Below.refl _ _).alloc (Nat.le_refl _) _⟩
  · clear h
    go_enter Try.func121, Try.ntmps121
    go_wp2
    go_ret2
    exact ⟨rfl, (Below.refl _ _).alloc (Nat.le_refl _) _⟩
  · clear h
    go_enter Try.func121, Try.ntmps121
    go_wp2
    go_ret2
    exact ⟨rfl, (Below.refl _ _).alloc (Nat.le_refl _) _⟩
theorem kindOfNo (dev seq stamp kind : Int) (item : ByteArray) (qty level undos : Int) (w : World) (h : kindB kind = false) :
    Calls Try.prog 121 #[.agg #[.int .i64 dev, .int .i64 seq, .int .i64 stamp, .int .i64 kind, .string item, .int .i64 qty, .int .i64 level, .int .i64 undos]] w fun e w' => e = .returned (.tuple #[.nilIface, .bool false]) ∧ Below w.heap.size w w' := by
  have hn : ¬ (1 ≤ kind ∧ kind ≤ 5) := fun h' => by have := inB_iff.2 h'; unfold kindB at h; rw [this] at h; cases h
  have n1 : (kind == 1) = false := by rw [beq_eq_false_iff_ne]; omega
  have n2 : (kind == 2) = false := by rw [beq_eq_false_iff_ne]; omega
  have n3 : (kind == 3) = false := by rw [beq_eq_false_iff_ne]; omega
  have n4 : (kind == 4) = false := by rw [beq_eq_false_iff_ne]; omega
  have n5 : (kind == 5) = false := by rw [beq_eq_false_iff_ne]; omega
  clear h hn
  go_enter Try.func121, Try.ntmps121
  go_wp2
  go_ret2
  exact ⟨rfl, (Below.refl _ _).alloc (Nat.le_refl _) _⟩
theorem Try.as1 (w : World) : Sem.run Try.prog (Instr.typeAssert (.iface 199 (.agg #[])) 162 199 true) w = .ok (.tuple #[.agg #[], .bool true]) w := by kernel_rfl
theorem Try.at1 (w : World) : Sem.run Try.prog (Instr.typeAssert (.iface 199 (.agg #[])) 162 202 true) w = .ok (.tuple #[.agg #[], .bool false]) w := by kernel_rfl
theorem Try.as2 (w : World) : Sem.run Try.prog (Instr.typeAssert (.iface 202 (.agg #[])) 162 199 true) w = .ok (.tuple #[.agg #[], .bool false]) w := by kernel_rfl
theorem Try.at2 (w : World) : Sem.run Try.prog (Instr.typeAssert (.iface 202 (.agg #[])) 162 202 true) w = .ok (.tuple #[.agg #[], .bool true]) w := by kernel_rfl
theorem Try.as3 (w : World) : Sem.run Try.prog (Instr.typeAssert (.iface 203 (.agg #[])) 162 199 true) w = .ok (.tuple #[.agg #[], .bool false]) w := by kernel_rfl
theorem Try.at3 (w : World) : Sem.run Try.prog (Instr.typeAssert (.iface 203 (.agg #[])) 162 202 true) w = .ok (.tuple #[.agg #[], .bool false]) w := by kernel_rfl
theorem Try.as4 (w : World) : Sem.run Try.prog (Instr.typeAssert (.iface 204 (.agg #[])) 162 199 true) w = .ok (.tuple #[.agg #[], .bool false]) w := by kernel_rfl
theorem Try.at4 (w : World) : Sem.run Try.prog (Instr.typeAssert (.iface 204 (.agg #[])) 162 202 true) w = .ok (.tuple #[.agg #[], .bool false]) w := by kernel_rfl
theorem Try.as5 (w : World) : Sem.run Try.prog (Instr.typeAssert (.iface 205 (.agg #[])) 162 199 true) w = .ok (.tuple #[.agg #[], .bool false]) w := by kernel_rfl
theorem Try.at5 (w : World) : Sem.run Try.prog (Instr.typeAssert (.iface 205 (.agg #[])) 162 202 true) w = .ok (.tuple #[.agg #[], .bool false]) w := by kernel_rfl
theorem qtyOk (kind qty : Int) (w : World) (h : kindB kind = true) :
    Calls Try.prog 124 #[kV kind, .int .i64 qty] w fun e w' => e = .returned (.bool (qB kind qty)) ∧ w = w' := by
  rcases kind_cases h with rfl | rfl | rfl | rfl | rfl
  · clear h
    have ha := Try.as1
    have hb' := Try.at1
    show Calls Try.prog 124 #[.iface 199 (.agg #[]), .int .i64 qty] w _
    go_enter Try.func124, Try.ntmps124
    go_wp2_with fail
    refine (inRange _ _ _ _).mono ?_
    rintro e w' ⟨rfl, rfl⟩
    go_wp2
    go_ret
    exact ⟨rfl, rfl⟩
  · clear h
    have ha := Try.as2
    have hb' := Try.at2
    show Calls Try.prog 124 #[.iface 202 (.agg #[]), .int .i64 qty] w _
    go_enter Try.func124, Try.ntmps124
    go_wp2_with fail
    refine (inRange _ _ _ _).mono ?_
    rintro e w' ⟨rfl, rfl⟩
    go_wp2
    go_ret
    exact ⟨rfl, rfl⟩
  · clear h
    have ha := Try.as3
    have hb' := Try.at3
    show Calls Try.prog 124 #[.iface 203 (.agg #[]), .int .i64 qty] w _
    by_cases hq : qty = 0
    · subst hq
      go_enter Try.func124, Try.ntmps124
      go_wp2
      go_ret
      exact ⟨rfl, rfl⟩
    · have hb : (qty == 0) = false := by rw [beq_eq_false_iff_ne]; exact hq
      have H : Hid (qB 3 qty = false) := decide_eq_false hq
      clear hq
      go_enter Try.func124, Try.ntmps124
      go_wp2
      go_ret
      exact ⟨by rw [H.out]; rfl, rfl⟩
  · clear h
    have ha := Try.as4
    have hb' := Try.at4
    show Calls Try.prog 124 #[.iface 204 (.agg #[]), .int .i64 qty] w _
    by_cases hq : qty = 0
    · subst hq
      go_enter Try.func124, Try.ntmps124
      go_wp2
      go_ret
      exact ⟨rfl, rfl⟩
    · have hb : (qty == 0) = false := by rw [beq_eq_false_iff_ne]; exact hq
      have H : Hid (qB 4 qty = false) := decide_eq_false hq
      clear hq
      go_enter Try.func124, Try.ntmps124
      go_wp2
      go_ret
      exact ⟨by rw [H.out]; rfl, rfl⟩
  · clear h
    have ha := Try.as5
    have hb' := Try.at5
    show Calls Try.prog 124 #[.iface 205 (.agg #[]), .int .i64 qty] w _
    by_cases hq : qty = 0
    · subst hq
      go_enter Try.func124, Try.ntmps124
      go_wp2
      go_ret
      exact ⟨rfl, rfl⟩
    · have hb : (qty == 0) = false := by rw [beq_eq_false_iff_ne]; exact hq
      have H : Hid (qB 5 qty = false) := decide_eq_false hq
      clear hq
      go_enter Try.func124, Try.ntmps124
      go_wp2
      go_ret
      exact ⟨by rw [H.out]; rfl, rfl⟩
end Go.Proofs.Ytdbdmfaphdjdpaa
