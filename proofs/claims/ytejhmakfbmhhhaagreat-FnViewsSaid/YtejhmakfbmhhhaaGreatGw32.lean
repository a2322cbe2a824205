/- Walks and mathematics that several claims share, part 32. -/
import Derived.Test.YtejhmakfbmhhhaaGreatGw29
import Derived.Test.YtejhmakfbmhhhaaGreatGw26
import Derived.ScopeJumps
import Derived.Deep.Cut
namespace Go.Proofs.YtejhmakfbmhhhaaGreat
open Go.RowKit

theorem OwnOps.tail {w : World} {lo hi : Nat} {a : Option Addr} {n : Nat} {l : List OpV} (h : OwnOps w lo hi a n l) (hn : 0 < n) : OwnOps w lo hi (Option.map (fun x => x.add 8) a) (n - 1) (l.drop 1) := by
  have hl := h.1
  refine ⟨by rw [List.length_drop]; omega, fun h1 => ?_⟩
  obtain ⟨g, off, cs, e, h2, h3, hg, hs, hc⟩ := h.2 hn
  refine ⟨g, off + 8, cs, by rw [e]; rfl, h2, h3, hg, by omega, fun i hi => ?_⟩
  have e1 : (l.drop 1).getD i OpV.zero = l.getD (i + 1) OpV.zero := by
    rw [List.getD_eq_getElem?_getD, List.getElem?_drop, List.getD_eq_getElem?_getD, Nat.add_comm 1 i]
  rw [e1]
  have := hc (i + 1) (by omega)
  have e2 : off + 8 + i * 8 = off + (i + 1) * 8 := by omega
  rw [e2]
  exact this
theorem Merge.congr {T : List OpV} {R R' : Nat → List OpV} (h : Merge T R) (hR : ∀ e, e < 4 → R' e = R e) : Merge T R' :=
  ⟨h.srt, fun y => (h.mem y).trans ⟨fun ⟨e, he, hy⟩ => ⟨e, he, by rw [hR e he]; exact hy⟩, fun ⟨e, he, hy⟩ => ⟨e, he, by rw [← hR e he]; exact hy⟩⟩, fun e he => by rw [hR e he]; exact h.run e he, fun e he y hy => h.dev e he y (by rw [← hR e he]; exact hy), fun e he y hy => h.ok e he y (by rw [← hR e he]; exact hy)⟩
theorem arr_set (A : Nat → Option Addr) (N C : Nat → Nat) {k : Nat} (hk : k < 4) (a : Option Addr) (n c : Nat) :
    (#[.slice (A 0) (N 0) (C 0), .slice (A 1) (N 1) (C 1), .slice (A 2) (N 2) (C 2), .slice (A 3) (N 3) (C 3)] : Array Value).setIfInBounds k (.slice a n c) = #[.slice (if 0 = k then a else A 0) (if 0 = k then n else N 0) (if 0 = k then c else C 0), .slice (if 1 = k then a else A 1) (if 1 = k then n else N 1) (if 1 = k then c else C 1), .slice (if 2 = k then a else A 2) (if 2 = k then n else N 2) (if 2 = k then c else C 2), .slice (if 3 = k then a else A 3) (if 3 = k then n else N 3) (if 3 = k then c else C 3)] := by
  obtain rfl | rfl | rfl | rfl : k = 0 ∨ k = 1 ∨ k = 2 ∨ k = 3 := by omega
  all_goals simp
structure HistJ (b3 nB : Nat) (w0 : World) (L H T : List OpV) (A : Nat → Option Addr) (N C : Nat → Nat) (R : Nat → List OpV) (v : Value) (w' : World) : Prop where
  below : Below b3 w0 w'
  arr : w'.heap[b3]? = some (.cells #[.slice (A 0) (N 0) (C 0), .slice (A 1) (N 1) (C 1), .slice (A 2) (N 2) (C 2), .slice (A 3) (N 3) (C 3)] 79 (0, 0))
  own : ∀ e, e < 4 → OwnOps w' (b3 + 1) nB (A e) (N e) (R e)
  cap : ∀ e, e < 4 → N e ≤ C e
  lim : ∀ e, e < 4 → N e ≤ 1048576
  hist : w'.ownsRow nB 39 8 v H.length (opCells H)
  sum : H ++ T = L
  mrg : Merge T R
  hi1 : b3 + 1 ≤ nB
  hi2 : nB ≤ w'.heap.size
theorem HistJ.step {b3 nB : Nat} {w0 : World} {L H T : List OpV} {A : Nat → Option Addr} {N C : Nat → Nat} {R : Nat → List OpV} {v : Value} {w' : World} (h : HistJ b3 nB w0 L H T A N C R v w') {w1 : World} (hb : Below w'.heap.size w' w1) : HistJ b3 nB w0 L H T A N C R v w1 :=
  ⟨h.below.trans (hb.mono (by have := h.hi1; have := h.hi2; omega)), (hb.block _ (Array.getElem?_eq_some_iff.1 h.arr).1).trans h.arr, fun e he => (h.own e he).below hb h.hi2, h.cap, h.lim, own_row_kept h.hist hb, h.sum, h.mrg, h.hi1, Nat.le_trans h.hi2 hb.size⟩
theorem HistJ.put {b3 nB : Nat} {w0 : World} {L H T : List OpV} {A : Nat → Option Addr} {N C : Nat → Nat} {R : Nat → List OpV} {v v' : Value} {w' w1 : World} (h : HistJ b3 nB w0 L H T A N C R v w') {k : Nat} (hk : k < 4) {x : OpV} {rest : List OpV} (hR : R k = x :: rest) (hp : precB R x = true)
    (hb : Below nB w' w1) (hh : w1.ownsRow nB 39 8 v' (H.length + 1) (opCells H ++ opRow x)) :
    ∃ T', HistJ b3 nB w0 L (H ++ [x]) T' (fun e => if e = k then (if C k = 1 then A k else Option.map (fun y => y.add 8) (A k)) else A e) (fun e => if e = k then N k - 1 else N e) (fun e => if e = k then C k - 1 else C e) (fun e => if e = k then rest else R e) v' (w1.setCell ⟨b3, k, none⟩ (.slice (if C k = 1 then A k else Option.map (fun y => y.add 8) (A k)) (N k - 1) (C k - 1))) := by
  obtain ⟨T', hT, hm⟩ := h.mrg.step hk hR hp
  have hh1 := h.hi1
  have hh2 := h.hi2
  have hNk : 0 < N k := by have := (h.own k hk).1; rw [hR] at this; simp at this; omega
  have ha1 : w1.heap[b3]? = some (.cells #[.slice (A 0) (N 0) (C 0), .slice (A 1) (N 1) (C 1), .slice (A 2) (N 2) (C 2), .slice (A 3) (N 3) (C 3)] 79 (0, 0)) := (hb.block _ (by omega)).trans h.arr
  have hcap := h.cap k hk
  refine ⟨T', ⟨(h.below.trans (hb.mono (by omega))).setCell (Nat.le_refl _) _, ?_, fun e he => ?_, fun e he => ?_, fun e he => ?_, ?_, ?_, hm, hh1, ?_⟩⟩
  · rw [heap_setCell_same _ _ _ _ _ _ ha1, arr_set A N C hk]
  · have hkeep : ∀ {a : Option Addr} {n : Nat} {l : List OpV}, OwnOps w' (b3 + 1) nB a n l → OwnOps (w1.setCell ⟨b3, k, none⟩ (.slice (if C k = 1 then A k else Option.map (fun y => y.add 8) (A k)) (N k - 1) (C k - 1))) (b3 + 1) nB a n l := fun ho =>
      (ho.below hb (Nat.le_refl _)).kept fun q h1 h2 => heap_setCell_other _ _ _ _ (by show q ≠ b3; omega)
    by_cases hek : e = k
    · subst hek
      simp only [if_true]
      have h1 := (h.own e he).tail hNk
      have e1 : (R e).drop 1 = rest := by rw [hR]; rfl
      rw [e1] at h1
      by_cases hc1 : C e = 1
      · have hn1 : N e - 1 = 0 := by omega
        rw [hn1] at h1 ⊢
        have : rest = [] := List.eq_nil_of_length_eq_zero h1.1
        rw [this]
        exact own_none _ _ _ _
      · rw [if_neg hc1] at hkeep ⊢
        exact hkeep h1
    · simp only [if_neg hek]
      exact hkeep (h.own e he)
  · by_cases hek : e = k
    · simp only [if_pos hek]; omega
    · simp only [if_neg hek]; exact h.cap e he
  · by_cases hek : e = k
    · simp only [if_pos hek]; have := h.lim k hk; omega
    · simp only [if_neg hek]; exact h.lim e he
  · have h1 : w1.ownsRow nB 39 8 v' (H ++ [x]).length (opCells (H ++ [x])) := by rw [opCells_snoc, List.length_append]; exact hh
    refine h1.kept (row := some b3) ⟨rfl, rfl, rfl, by simp [World.setCell], fun j hj hne => heap_setCell_other _ _ _ _ (fun e => hne (by rw [e]))⟩ ?_
    rcases hg : v'.ownBlock with _ | g
    · exact .inl rfl
    · refine .inr fun e => ?_
      injection e with e
      have := (h1.lt g hg).1
      omega
  · rw [← h.sum, hT]; simp
  · rw [World.size_setCell]; exact Nat.le_trans hh2 hb.size
end Go.Proofs.YtejhmakfbmhhhaaGreat
