/- Operations in their order: insertion, as spec.l8Sort does it, and its walk. -/
import Derived.Test.YtjmilgijdfibbabTogS
import Derived.Deep.Cut
namespace Go.Proofs.Ytjmilgijdfibbab
open Go.RowKit

def befO (a b : OpV) : Bool := preB a.stamp a.dev a.seq b.stamp b.dev b.seq
def cntO (L : List OpV) (x : OpV) : Nat := (L.takeWhile fun y => befO y x).length
def insO (L : List OpV) (x : OpV) : List OpV := (L.take (cntO L x) ++ [x]) ++ L.drop (cntO L x)
def sortTo (l : List OpV) (k : Nat) : List OpV := (l.take k).foldl insO []
theorem cnt_le (L : List OpV) (x : OpV) : cntO L x ≤ L.length := by
  have := (List.takeWhile_sublist (fun y => befO y x) (l := L)).length_le
  exact this
theorem cnt_end : ∀ {L : List OpV} {x : OpV} {t : Nat}, (∀ j, j < t → befO (atOp L j) x = true) → (t < L.length → befO (atOp L t) x = false) → t ≤ L.length → cntO L x = t
  | [], x, t, _, _, h3 => by obtain rfl : t = 0 := by simpa using h3
                             rfl
  | y :: L, x, 0, _, h2, _ => by
    have : befO y x = false := h2 (by simp)
    unfold cntO
    rw [List.takeWhile_cons_of_neg (by simp [this])]
    rfl
  | y :: L, x, t + 1, h1, h2, h3 => by
    have hy : befO y x = true := h1 0 (by omega)
    unfold cntO
    rw [List.takeWhile_cons_of_pos (by simpa using hy)]
    have := cnt_end (L := L) (x := x) (t := t) (fun j hj => h1 (j + 1) (by omega)) (fun h => h2 (by simpa using h)) (by simpa using h3)
    unfold cntO at this
    rw [List.length_cons, this]
theorem sort_step {l : List OpV} {k : Nat} (hk : k < l.length) : sortTo l (k + 1) = insO (sortTo l k) (atOp l k) := by
  have e : l[k] = atOp l k := by unfold atOp; rw [List.getD_eq_getElem?_getD, List.getElem?_eq_getElem hk]; rfl
  unfold sortTo
  rw [List.take_succ_eq_append_getElem hk, List.foldl_append, e]
  rfl
theorem ins_len (L : List OpV) (x : OpV) : (insO L x).length = L.length + 1 := by
  have := cnt_le L x
  unfold insO
  rw [List.length_append, List.length_append, List.length_take, List.length_drop, List.length_singleton]
  omega
theorem sort_len : ∀ (l : List OpV) (k : Nat), k ≤ l.length → (sortTo l k).length = k
  | _, 0, _ => by rw [sortTo, List.take_zero]; rfl
  | l, k + 1, h => by rw [sort_step (by omega), ins_len, sort_len l k (by omega)]
theorem opCells_app : ∀ (a b : List OpV), opCells (a ++ b) = opCells a ++ opCells b
  | [], b => rfl
  | x :: a, b => by
    show opRow x ++ opCells (a ++ b) = (opRow x ++ opCells a) ++ opCells b
    rw [opCells_app a b, List.append_assoc]
/-- What a part of a row of the call's own holds, as 'append' asks. -/
theorem row_part {w : World} {base n cap g : Nat} {L : List OpV} (h : w.ownsRow base 66 8 (.slice (some ⟨g, 0, none⟩) n cap) n (opCells L)) (t c : Nat) (htc : t + c ≤ n) : ∀ j u, (opCells ((L.drop t).take c))[j]? = some u → w.cell? ((⟨g, 0 + t * 8, none⟩ : Addr).add j) = some u := by
  intro j u hj
  have hLn : L.length = n := by have := h.1; rw [opCells_len] at this; omega
  have hl : ((L.drop t).take c).length = c := by rw [List.length_take, List.length_drop, hLn]; omega
  have hjl : j < c * 8 := by
    rcases Nat.lt_or_ge j (c * 8) with h' | h'
    · exact h'
    · rw [List.getElem?_eq_none (by rw [opCells_len, hl]; exact h')] at hj; cases hj
  have hc := h.cells (g := g) rfl (t * 8 + j) u (by
    have hd : j = (j / 8) * 8 + j % 8 := by omega
    have e1 : t * 8 + j = (t + j / 8) * 8 + j % 8 := by omega
    rw [hd, opCells_at _ _ _ (by rw [hl]; omega) (by omega)] at hj
    rw [e1, opCells_at _ _ _ (by rw [hLn]; omega) (by omega)]
    have e2 : ((L.drop t).take c).getD (j / 8) OpV.zero = L.getD (t + j / 8) OpV.zero := at_cut (by omega)
    rw [e2] at hj
    exact hj)
  rw [add_at] at hc ⊢
  have e3 : 0 + t * 8 + j = 0 + (t * 8 + j) := by omega
  rw [e3]
  exact hc

end Go.Proofs.Ytjmilgijdfibbab
