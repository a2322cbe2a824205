/- Walks and mathematics that several claims share, part 43. -/
import Derived.Test.YthkagbnpcjidfaaGreatDoorGy15
import Derived.ArgAppend
import Derived.Test.YthkagbnpcjidfaaGreatDoorGyA
namespace Go.Proofs.YthkagbnpcjidfaaGreatDoor
open Go.RowKit
set_option linter.unusedVariables false
set_option linter.unusedSimpArgs false
set_option linter.unusedVariables false

theorem Q0 (p : aT → Bool) {L : List aT} {q : Nat} (h : q < L.length) : (L.take (q + 1)).filter p = (L.take q).filter p ++ if p (L.getD q aT.zero) = true then [L.getD q aT.zero] else [] := by
 rw [List.take_succ_eq_append_getElem h, List.filter_append]
 have e : L[q] = L.getD q aT.zero := by rw [List.getD_eq_getElem?_getD, List.getElem?_eq_getElem h]; rfl
 rw [e, List.filter_cons, List.filter_nil]
theorem aAa (p : aT → Bool) (L : List aT) (q : Nat) (h : q ≤ 1048576) : ((L.take q).filter p).length ≤ 1048576 := by
 have := List.length_filter_le p (L.take q)
 rw [List.length_take] at this
 omega
/-- Lines gathered so far: none yet, in the empty slice at block b, or a row of the law's own at block H or behind it. -/
def kB (b H : Nat) (w : World) (v : Value) (l : List aT) : Prop := (l = [] ∧ v = .slice (some ⟨b, 0, none⟩) 0 0) ∨ w.ownsRow H 39 3 v l.length (fL l)
theorem kB.nil (b H : Nat) (w : World) : kB b H w (.slice (some ⟨b, 0, none⟩) 0 0) [] := .inl ⟨rfl, rfl⟩
theorem kB.app {b H : Nat} {w : World} {v : Value} {l : List aT} (h : kB b H w v l) (hH : H ≤ w.heap.size) (hl : l.length ≤ 1048576) (o : aT) :
  ∃ v' w', (Builtin.append_ #[42, 42] 42 #[v, .slice (some ⟨w.heap.size, 0, none⟩) 1 1]).run Tryz.prog (w.alloc (.cells #[.string o.item, .int .i64 o.qty, .bool o.saved] 39)) = .ok v' w' ∧ kB b H w' v' (l ++ [o]) ∧ Below H w w' := by
 rcases h with ⟨rfl, rfl⟩ | h
 ·obtain ⟨i0, hi, iF, kO, jU⟩ := info_parts Tryz.zeroLn
  have aW : Below H w (w.alloc (.cells #[.string o.item, .int .i64 o.qty, .bool o.saved] 39)) := (Below.refl _ _).alloc hH _; have wX : ∀ j u, (kY o)[j]? = some u → (w.alloc (.cells #[.string o.item, .int .i64 o.qty, .bool o.saved] 39)).cell? ((⟨w.heap.size, 0, none⟩ : Addr).add j) = some u := by
   intro j u hu
   have hj : j < 3 := by
    rcases Nat.lt_or_ge j 3 with g | g
    ·exact g
    ·rw [List.getElem?_eq_none (by show 3 ≤ j; exact g)] at hu; cases hu
   rw [uI, aRD (heap_alloc_new w _), Nat.zero_add]; rw [← hu]
   match j, hj with
   | 0, _ => rfl
   | 1, _ => rfl
   | 2, _ => rfl
  obtain ⟨v', w', h1, h2, h3⟩ := run_append_arg_grows (P := Tryz.prog) (w.alloc (.cells #[.string o.item, .int .i64 o.qty, .bool o.saved] 39)) 42 42 39 i0 (.agg #[.string ⟨#[]⟩, .int .i64 0, .bool false]) 3 32 Tryz.underlying42 hi iF kO jU rfl (by decide) ⟨b, 0, none⟩ 0 0 [] rfl (fun j u hu => by cases hu) ⟨w.heap.size, 0, none⟩ 1 1 (kY o) rfl wX (by omega) (by unfold maxLen; omega) (by omega)
  have uC := aW.size; refine ⟨v', w', h1, .inr ?_, aW.grown h3 (Nat.le_trans hH uC) (fun j hj => by cases hj)⟩
  obtain ⟨e, ⟨_, e0⟩ | ⟨g, c, aX, e1, hg, r⟩⟩ := h2
  ·exact absurd e0 (by omega)
  ·exact ⟨e, .inr ⟨g, c, aX, e1, Nat.le_trans (Nat.le_trans hH uC) hg, r⟩⟩
 ·obtain ⟨v', w', h1, h2, h3, _⟩ := aKY w H v l.length l h o (by omega) hH
  exact ⟨v', w', h1, .inr (by rw [List.length_append]; exact h2), h3⟩
theorem kB.below {b H : Nat} {w w' : World} {v : Value} {l : List aT} (h : kB b H w v l) (hb : Below w.heap.size w w') : kB b H w' v l := by
 rcases h with h | h
 ·exact .inl h
 ·exact .inr (h.kept (row := none) ⟨hb.os, hb.tape, hb.output, hb.size, fun j hj _ => hb.block j hj⟩ (by cases hv : v.ownBlock <;> simp))
theorem kB.slice {b H : Nat} {w : World} {v : Value} {l : List aT} (h : kB b H w v l) : ∃ a c, v = .slice a l.length c ∧ E0 w w.heap.size a l.length l := by
 rcases h with ⟨rfl, rfl⟩ | h
 ·exact ⟨_, _, rfl, rfl, fun i hi => absurd hi (Nat.not_lt_zero _)⟩
 ·obtain ⟨a, c, e, ho⟩ := rT h aRC
  exact ⟨a, c, e, ho.rows⟩
end Go.Proofs.YthkagbnpcjidfaaGreatDoor
