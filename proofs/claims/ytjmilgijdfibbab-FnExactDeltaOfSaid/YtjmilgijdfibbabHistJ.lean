/- What holds whenever impl.History jumps back to its label. -/
import Derived.Test.YtjmilgijdfibbabHistW
import Derived.Test.YtjmilgijdfibbabNamedC
import Derived.ScopeJumps
import Derived.Deep.Cut
namespace Go.Proofs.Ytjmilgijdfibbab
open Go.RowKit

theorem scope_jumps {P : Program} {a : Act} {w : World} {Q : Exit → Act → World → Prop} {c rest : Code} (l : Nat) (J : Act → World → Prop) (mu : Act → World → Nat) (hf : findLabel c l = some (.seq .skip rest))
    (pass : ∀ a w, J a w → rest.wp P (Exit.jump l (fun a' w' => J a' w' ∧ mu a' w' < mu a w) Q) a w)
    (first : (∀ a w, J a w → rest.wp P (Exit.jump l J Q) a w) → c.wp P (Exit.jump l J Q) a w) : (Code.scope c).wp P Q a w :=
  wp_scope_jumps l J mu hf (first fun a w h => wp_mono (pass a w h) (fun e a' w' hq => by
    cases e with
    | goto l' => exact ⟨hq.1, hq.2.1⟩
    | normal => exact hq
    | exit i => exact hq
    | ret => exact hq
    | panic c => exact hq
    | outgrown => exact hq)) fun a w h => wp_seq (wp_skip (pass a w h))
theorem OwnOps.tail {w : World} {lo hi : Nat} {a : Option Addr} {n : Nat} {l : List OpV} (h : OwnOps w lo hi a n l) (hn : 0 < n) : OwnOps w lo hi (Option.map (fun x => x.add 8) a) (n - 1) (l.drop 1) := by
  have hl := h.1
  refine ⟨by rw [List.length_drop]; omega, fun h1 => ?_⟩
  obtain ⟨g, off, cs, e, h2, h3, hg, hs, hc⟩ := h.2 hn
  refine ⟨g, off + 8, cs, by rw [e]; rfl, h2, h3, hg, by omega, fun i hi => ?_⟩
  have e1 : (l.drop 1).getD i OpV.zero = l.getD (i + 1) OpV.zero := by
    rw [List.getD_eq_getElem?_getD, List.getElem?_drop, List.getD_eq_getElem?_getD, Nat.add_comm 1 i]
  rw [e1]
  have := hc (i + 1) (by omega)
  have e2 : off + 8 + i * 8 = off + (i + 1) * 8 := by omega
  rw [e2]
  exact this
theorem Merge.congr {T : List OpV} {R R' : Nat → List OpV} (h : Merge T R) (hR : ∀ e, e < 4 → R' e = R e) : Merge T R' :=
  ⟨h.srt, fun y => (h.mem y).trans ⟨fun ⟨e, he, hy⟩ => ⟨e, he, by rw [hR e he]; exact hy⟩, fun ⟨e, he, hy⟩ => ⟨e, he, by rw [← hR e he]; exact hy⟩⟩, fun e he => by rw [hR e he]; exact h.run e he, fun e he y hy => h.dev e he y (by rw [← hR e he]; exact hy), fun e he y hy => h.ok e he y (by rw [← hR e he]; exact hy)⟩
theorem merge_named (xs : List Int) (l : List OpV) : Merge (histL xs l) (fun e => namedL xs l (e : Int)) := by
  rcases h : cartB xs l with _ | _
  · rw [hist_no h]
    exact ⟨List.Pairwise.nil, fun y => ⟨fun hy => (by cases hy), fun ⟨e, _, hy⟩ => (by rw [named_no h] at hy; cases hy)⟩, fun e _ => (by rw [named_no h]; exact List.Pairwise.nil), fun e _ y hy => (by rw [named_no h] at hy; cases hy), fun e _ y hy => (by rw [named_no h] at hy; cases hy)⟩
  · rw [hist_yes h]
    exact (Merge.start h).congr fun e he => by rw [named_yes h, named_seg h he]
def lenOf : Value → Nat
  | .slice _ n _ => n
  | _ => 0
theorem arr_set (A : Nat → Option Addr) (N C : Nat → Nat) {k : Nat} (hk : k < 4) (a : Option Addr) (n c : Nat) :
    (#[.slice (A 0) (N 0) (C 0), .slice (A 1) (N 1) (C 1), .slice (A 2) (N 2) (C 2), .slice (A 3) (N 3) (C 3)] : Array Value).setIfInBounds k (.slice a n c) = #[.slice (if 0 = k then a else A 0) (if 0 = k then n else N 0) (if 0 = k then c else C 0), .slice (if 1 = k then a else A 1) (if 1 = k then n else N 1) (if 1 = k then c else C 1), .slice (if 2 = k then a else A 2) (if 2 = k then n else N 2) (if 2 = k then c else C 2), .slice (if 3 = k then a else A 3) (if 3 = k then n else N 3) (if 3 = k then c else C 3)] := by
  obtain rfl | rfl | rfl | rfl : k = 0 ∨ k = 1 ∨ k = 2 ∨ k = 3 := by omega
  all_goals simp
theorem own_cap {w : World} {base : Nat} {a : Option Addr} {n c : Nat} {xs : List Value} (h : w.ownsRow base 66 8 (.slice a n c) n xs) : n ≤ c := by
  rcases h.2 with ⟨e, e2⟩ | ⟨g, c', cur, e, _, _, hnc, _⟩
  · omega
  · cases e; exact hnc
end Go.Proofs.Ytjmilgijdfibbab
