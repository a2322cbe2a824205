/- Walks and mathematics that several claims share, part 28. -/
import Derived.Test.YtgagchlcafdiaaaGreatGb26
import Derived.Deep.Onto
import Derived.Deep.Cut
import Derived.Test.YtgagchlcafdiaaaGreatGbA
namespace Go.Proofs.YtgagchlcafdiaaaGreat
open Go.RowKit
set_option linter.unusedVariables false
set_option linter.unusedSimpArgs false

def befV (a b : OpV) : Bool := befB a.dev a.seq a.stamp a.kind a.item a.qty a.level a.undos b.dev b.seq b.stamp b.kind b.item b.qty b.level b.undos
/-- Does the list's first operation, if there is one, not precede x? -/
def headOk (L : List OpV) (x : OpV) : Bool := decide (L.length = 0) || !(befV (atOp L 0) x)
def precB (R : Nat → List OpV) (x : OpV) : Bool := (List.range 4).all fun e => headOk (R e) x
theorem headOk_at {L : List OpV} {x : OpV} (h : 0 < L.length) : headOk L x = !(befV (atOp L 0) x) := by unfold headOk; rw [decide_eq_false (by omega)]; rfl

theorem bef_iff {a b : OpV} : befO a b = true ↔ a.stamp < b.stamp ∨ (a.stamp = b.stamp ∧ (a.dev < b.dev ∨ (a.dev = b.dev ∧ a.seq < b.seq))) := by unfold befO preB; exact decide_eq_true_iff
theorem bef_trans {a b c : OpV} (h1 : befO a b = true) (h2 : befO b c = true) : befO a c = true := by rw [bef_iff] at *; omega
theorem bef_irr {a : OpV} (h : befO a a = true) : False := by rw [bef_iff] at h; omega
theorem befV_ok {a b : OpV} (ha : a.ok = true) (hb : b.ok = true) : befV a b = befO a b := by
 have ha' : opB a.dev a.seq a.stamp a.kind a.item a.qty a.level a.undos = true := ha
 have hb' : opB b.dev b.seq b.stamp b.kind b.item b.qty b.level b.undos = true := hb
 unfold befV befB
 rw [ha', hb']
 rfl
def SortedO (L : List OpV) : Prop := L.Pairwise fun a b => befO a b = true
/-- What is left of the lists, R, is what is left of the history, T. -/
structure Merge (T : List OpV) (R : Nat → List OpV) : Prop where
 srt : SortedO T
 mem : ∀ y, y ∈ T ↔ ∃ e, e < 4 ∧ y ∈ R e
 run : ∀ e, e < 4 → SortedO (R e)
 dev : ∀ e, e < 4 → ∀ y ∈ R e, y.dev = (e : Int)
 ok : ∀ e, e < 4 → ∀ y ∈ R e, y.ok = true
theorem prec_all {R : Nat → List OpV} {x : OpV} (h : precB R x = true) {e : Nat} (he : e < 4) : headOk (R e) x = true := by
 unfold precB at h
 rw [List.all_eq_true] at h
 exact h e (by simpa using he)
theorem head_cons {y x : OpV} {r : List OpV} (h : headOk (y :: r) x = true) (hy : y.ok = true) (hx : x.ok = true) : befO y x = false := by
 rw [headOk_at (by simp)] at h
 have e : atOp (y :: r) 0 = y := rfl
 rw [e, befV_ok hy hx] at h
 simpa using h
theorem Merge.step {T : List OpV} {R : Nat → List OpV} (h : Merge T R) {d : Nat} (hd : d < 4) {x : OpV} {rest : List OpV} (hR : R d = x :: rest) (hp : precB R x = true) :
  ∃ T', T = x :: T' ∧ Merge T' (fun e => if e = d then rest else R e) := by
 have hxd : x ∈ R d := by rw [hR]; exact List.mem_cons_self
 have hxT : x ∈ T := (h.mem x).2 ⟨d, hd, hxd⟩
 have hxok := h.ok d hd x hxd
 cases T with
 | nil => cases hxT
 | cons t T' =>
  have hc := List.pairwise_cons.1 h.srt
  obtain ⟨e, he, hte⟩ := (h.mem t).1 List.mem_cons_self
  have htx : t = x := by
   rcases List.mem_cons.1 hxT with rfl | hx'
   ·rfl
   have hb := hc.1 x hx'
   exfalso
   have hH := prec_all hp he
   cases hRe : R e with
   | nil => rw [hRe] at hte; cases hte
   | cons y r =>
    rw [hRe] at hH hte
    have hyok := h.ok e he y (by rw [hRe]; exact List.mem_cons_self)
    have hf := head_cons hH hyok hxok
    have hs := h.run e he
    rw [hRe] at hs
    rcases List.mem_cons.1 hte with rfl | ht
    ·rw [hb] at hf; cases hf
    ·rw [bef_trans ((List.pairwise_cons.1 hs).1 t ht) hb] at hf; cases hf
  subst htx
  refine ⟨T', rfl, hc.2, fun y => ?_, fun e he => ?_, fun e he y hy => ?_, fun e he y hy => ?_⟩
  ·constructor
   ·intro hy
    obtain ⟨e2, he2, hy2⟩ := (h.mem y).1 (List.mem_cons_of_mem _ hy)
    refine ⟨e2, he2, ?_⟩
    by_cases e3 : e2 = d
    ·subst e3
     rw [if_pos rfl]
     rw [hR] at hy2
     rcases List.mem_cons.1 hy2 with rfl | h2
     ·exact absurd (hc.1 y hy) (fun h => bef_irr h)
     ·exact h2
    ·rw [if_neg e3]; exact hy2
   ·rintro ⟨e2, he2, hy2⟩
    by_cases e3 : e2 = d
    ·subst e3
     rw [if_pos rfl] at hy2
     have hs := h.run e2 he2
     rw [hR] at hs
     have hb := (List.pairwise_cons.1 hs).1 y hy2
     rcases List.mem_cons.1 ((h.mem y).2 ⟨e2, he2, by rw [hR]; exact List.mem_cons_of_mem _ hy2⟩) with rfl | h2
     ·exact (bef_irr hb).elim
     ·exact h2
    ·rw [if_neg e3] at hy2
     rcases List.mem_cons.1 ((h.mem y).2 ⟨e2, he2, hy2⟩) with rfl | h2
     ·have h1 := h.dev e2 he2 y hy2
      have h2 := h.dev d hd y hxd
      omega
     ·exact h2
  ·by_cases e3 : e = d
   ·subst e3
    rw [if_pos rfl]
    have hs := h.run e he
    rw [hR] at hs
    exact (List.pairwise_cons.1 hs).2
   ·rw [if_neg e3]; exact h.run e he
  ·by_cases e3 : e = d
   ·subst e3
    rw [if_pos rfl] at hy
    exact h.dev e he y (by rw [hR]; exact List.mem_cons_of_mem _ hy)
   ·rw [if_neg e3] at hy; exact h.dev e he y hy
  ·by_cases e3 : e = d
   ·subst e3
    rw [if_pos rfl] at hy
    exact h.ok e he y (by rw [hR]; exact List.mem_cons_of_mem _ hy)
   ·rw [if_neg e3] at hy; exact h.ok e he y hy
end Go.Proofs.YtgagchlcafdiaaaGreat
