/- Walks and mathematics that several claims share, part 30. -/
import Derived.Test.YthkagbnpcjidfaaGreatDoorGp25
import Derived.Laws.CopyRow
import Derived.Laws.IdiomCopy
import Derived.Deep.Onto
import Derived.Deep.Cut
import Derived.ScopeJumps
namespace Go.Proofs.YthkagbnpcjidfaaGreatDoor
open Go.RowKit
set_option linter.unusedVariables false
set_option linter.unusedSimpArgs false
theorem mT : ∀ a b : List aA, aH (a ++ b) = aH a ++ aH b
 | [], b => rfl
 | x :: a, b => by
  show bR x ++ aH (a ++ b) = (bR x ++ aH a) ++ aH b
  rw [mT a b, List.append_assoc]
theorem P8 (o : aA) : aH [o] = bR o := by show bR o ++ [] = _; rw [List.append_nil]
theorem rV (o : aA) : (bR o).length = 8 := rfl
theorem aGD {aV A B R O : List Value} {p q : Nat} (hc : aV = A ++ B ++ R) (hA : A.length = p) (hB : B.length = q) (hO : O.length = 8) (hR : 8 ≤ R.length) :
  ((aV.take (p + 8) ++ B ++ aV.drop (p + 8 + B.length)).take p ++ O ++ (aV.take (p + 8) ++ B ++ aV.drop (p + 8 + B.length)).drop (p + O.length)).take (p + 8 + q) = A ++ O ++ B ∧
  (aV.take (p + 8) ++ B ++ aV.drop (p + 8 + B.length)).length = aV.length ∧
  ((aV.take (p + 8) ++ B ++ aV.drop (p + 8 + B.length)).take p ++ O ++ (aV.take (p + 8) ++ B ++ aV.drop (p + 8 + B.length)).drop (p + O.length)).length = aV.length := by
 have hl : aV.length = p + q + R.length := by rw [hc, List.length_append, List.length_append, hA, hB]
 have ht : (aV.take (p + 8)).length = p + 8 := by rw [List.length_take]; omega
 have e1 : (aV.take (p + 8) ++ B ++ aV.drop (p + 8 + B.length)).take p = A := by
  rw [List.append_assoc, List.take_append_of_le_length (by omega), List.take_take, Nat.min_eq_left (by omega), hc, List.append_assoc, List.take_append_of_le_length (by omega), ← hA, List.take_length]
 have e2 : (aV.take (p + 8) ++ B ++ aV.drop (p + 8 + B.length)).drop (p + O.length) = B ++ aV.drop (p + 8 + B.length) := by
  rw [hO, List.append_assoc]; exact List.drop_left' ht
 rw [e1, e2]
 refine ⟨?_, ?_, ?_⟩
 ·rw [← List.append_assoc, List.take_append_of_le_length (by simp only [List.length_append]; omega)]
  exact List.take_of_length_le (by simp only [List.length_append]; omega)
 ·simp only [List.length_append, List.length_drop, ht]; omega
 ·simp only [List.length_append, List.length_drop]; omega
theorem aHZ {row A B Z O : List Value} {p q : Nat} (hc : row = A ++ Z) (hA : A.length = p) (hB : B.length = q) (hO : O.length = 8) (hZ : 8 + q ≤ Z.length) :
  ((row.take p ++ O ++ row.drop (p + O.length)).take (p + 8) ++ B ++ (row.take p ++ O ++ row.drop (p + O.length)).drop (p + 8 + B.length)).take (p + 8 + q) = A ++ O ++ B ∧
  (row.take p ++ O ++ row.drop (p + O.length)).length = row.length ∧
  ((row.take p ++ O ++ row.drop (p + O.length)).take (p + 8) ++ B ++ (row.take p ++ O ++ row.drop (p + O.length)).drop (p + 8 + B.length)).length = row.length := by
 have hl : row.length = p + Z.length := by rw [hc, List.length_append, hA]
 have e0 : row.take p = A := by rw [hc, List.take_append_of_le_length (by omega), ← hA, List.take_length]
 have e1 : (row.take p ++ O ++ row.drop (p + O.length)).take (p + 8) = A ++ O := by
  rw [e0, List.take_append_of_le_length (by simp only [List.length_append]; omega)]
  exact List.take_of_length_le (by simp only [List.length_append]; omega)
 have hl2 : (row.take p ++ O ++ row.drop (p + O.length)).length = row.length := by
  simp only [List.length_append, List.length_take, List.length_drop]; omega
 refine ⟨?_, hl2, ?_⟩
 ·rw [e1, List.take_append_of_le_length (by simp only [List.length_append]; omega)]
  exact List.take_of_length_le (by simp only [List.length_append]; omega)
 ·rw [e1]
  simp only [List.length_append, List.length_drop, hl2]
  omega
section
variable {P : Program}
theorem rF (w : World) (dT sT ty elem : TypeId) (g o aIx aN6 : Nat) (a : Addr) (aHp aNq : Nat) (aV : Array Value) (t : TypeId) (cs : List Value) (k : Nat)
  (hu : P.underlying dT = some (.slice elem)) (hs : (P.info? elem).map (·.size) = some k)
  (hg : w.heap[g]? = some (.cells aV t (0, 0))) (hn : cs.length = Nat.min aHp aIx * k)
  (aCY : ∀ j v, cs[j]? = some v → w.cell? (a.add j) = some v) (aIh : o + cs.length ≤ aV.size) (h1 : ∀ v ∈ cs, v.oneCell' = true) :
  (Builtin.copy_ #[dT, sT] ty #[.slice (some ⟨g, o, none⟩) aIx aN6, .slice (some a) aHp aNq]).run P w =
   .ok (goInt (Nat.min aHp aIx)) (w.setRow g (aV.toList.take o ++ cs ++ aV.toList.drop (o + cs.length)).toArray) := by
 have hl := run_loadCells_list (P := P) w a cs aCY
 have eB := run_storeCells_at P g o t cs 0 aV w hg (by simpa using aIh) h1
 cases hq : P.info? elem with
 | none => simp [hq] at hs
 | some i =>
  have hi : i.size = k := by simpa [hq] using hs
  simp [Builtin.copy_, run_underlying hu, Builtin.lenOf, Builtin.firstCells, sizeOf, typeInfo, hq, hi, ← hn, hl, eB]
theorem aCt {o : Oper} {a : Act} {w : World} {K : Act → World → Prop} {Q : Exit → Act → World → Prop} (x y : Operand) (ts : Array TypeId) (dX : o.op = Op.call { callee := Callee.builtin Builtin.copy, args := #[x, y], argTypes := ts }) (v1 v2 : Value) {v' : Value} {w' : World} (h1 : a.eval x = v1) (h2 : a.eval y = v2)
  (hrun : (Builtin.copy_ ts o.type #[v1, v2]).run P w = .ok v' w') (hK : K (a.put o.dst v') w') : Oper.wp P o a w K Q := by
 unfold Oper.wp
 simp [execOp, dX, resolve, invoke, builtin, h1, h2, hrun, Result.andThen]
 exact hK
theorem aED {w : World} {ops : Array Oper} {rest : List Oper} {o : Oper} {a : Act} {Q : Exit → Act → World → Prop} (hgd : o.guard = none) (x y : Operand) (ts : Array TypeId) (dX : o.op = Op.call { callee := Callee.builtin Builtin.copy, args := #[x, y], argTypes := ts }) (v1 v2 : Value) {v' : Value} {w' : World} (h1 : a.eval x = v1) (h2 : a.eval y = v2)
  (hrun : (Builtin.copy_ ts o.type #[v1, v2]).run P w = .ok v' w') (h : wpList P ops Q rest (a.put o.dst v') w') : wpList P ops Q (o :: rest) a w :=
 wpList_plain hgd fun _ hK => aCt x y ts dX v1 v2 h1 h2 hrun (hK _ _ h)
end
def aFl (a b : aA) : Bool := K3 a.dev a.seq a.stamp a.kind a.item a.qty a.level a.undos b.dev b.seq b.stamp b.kind b.item b.qty b.level b.undos
def T0 (L : List aA) (x : aA) : Bool := decide (L.length = 0) || !(aFl (aB L 0) x)
def aCa (R : Nat → List aA) (x : aA) : Bool := (List.range 4).all fun e => T0 (R e) x
theorem aGO {L : List aA} {x : aA} (h : 0 < L.length) : T0 L x = !(aFl (aB L 0) x) := by unfold T0; rw [decide_eq_false (by omega)]; rfl
theorem aEz {a b : aA} : K2 a b = true ↔ a.stamp < b.stamp ∨ (a.stamp = b.stamp ∧ (a.dev < b.dev ∨ (a.dev = b.dev ∧ a.seq < b.seq))) := by unfold K2 preB; exact decide_eq_true_iff
theorem aHc {a b c : aA} (h1 : K2 a b = true) (h2 : K2 b c = true) : K2 a c = true := by rw [aEz] at *; omega
theorem aEy {a : aA} (h : K2 a a = true) : False := by rw [aEz] at h; omega
theorem aKu {a b : aA} (ha : a.ok = true) (hb : b.ok = true) : aFl a b = K2 a b := by
 have ha' : dK a.dev a.seq a.stamp a.kind a.item a.qty a.level a.undos = true := ha
 have T1 : dK b.dev b.seq b.stamp b.kind b.item b.qty b.level b.undos = true := hb
 unfold aFl K3
 rw [ha', T1]
 rfl
def aEB (L : List aA) : Prop := L.Pairwise fun a b => K2 a b = true
structure K6 (T : List aA) (R : Nat → List aA) : Prop where
 srt : aEB T
 mem : ∀ y, y ∈ T ↔ ∃ e, e < 4 ∧ y ∈ R e
 run : ∀ e, e < 4 → aEB (R e)
 dev : ∀ e, e < 4 → ∀ y ∈ R e, y.dev = (e : Int)
 ok : ∀ e, e < 4 → ∀ y ∈ R e, y.ok = true
theorem aHr {R : Nat → List aA} {x : aA} (h : aCa R x = true) {e : Nat} (he : e < 4) : T0 (R e) x = true := by
 unfold aCa at h
 rw [List.all_eq_true] at h
 exact h e (by simpa using he)
theorem aGN {y x : aA} {r : List aA} (h : T0 (y :: r) x = true) (hy : y.ok = true) (hx : x.ok = true) : K2 y x = false := by
 rw [aGO (by simp)] at h
 have e : aB (y :: r) 0 = y := rfl
 rw [e, aKu hy hx] at h
 simpa using h
theorem K6.step {T : List aA} {R : Nat → List aA} (h : K6 T R) {d : Nat} (hd : d < 4) {x : aA} {rest : List aA} (hR : R d = x :: rest) (hp : aCa R x = true) :
  ∃ T', T = x :: T' ∧ K6 T' (fun e => if e = d then rest else R e) := by
 have hxd : x ∈ R d := by rw [hR]; exact List.mem_cons_self
 have hxT : x ∈ T := (h.mem x).2 ⟨d, hd, hxd⟩
 have aNv := h.ok d hd x hxd
 cases T with
 | nil => cases hxT
 | cons t T' =>
  have hc := List.pairwise_cons.1 h.srt; obtain ⟨e, he, hte⟩ := (h.mem t).1 List.mem_cons_self; have htx : t = x := by
   rcases List.mem_cons.1 hxT with rfl | hx'
   ·rfl
   have hb := hc.1 x hx'
   exfalso
   have hH := aHr hp he; cases hRe : R e with
   | nil => rw [hRe] at hte; cases hte
   | cons y r =>
    rw [hRe] at hH hte; have aNt := h.ok e he y (by rw [hRe]; exact List.mem_cons_self)
    have hf := aGN hH aNt aNv; have hs := h.run e he; rw [hRe] at hs; rcases List.mem_cons.1 hte with rfl | ht
    ·rw [hb] at hf; cases hf
    ·rw [aHc ((List.pairwise_cons.1 hs).1 t ht) hb] at hf; cases hf
  subst htx; refine ⟨T', rfl, hc.2, fun y => ?_, fun e he => ?_, fun e he y hy => ?_, fun e he y hy => ?_⟩
  ·constructor
   ·intro hy
    obtain ⟨e2, tK, tA⟩ := (h.mem y).1 (List.mem_cons_of_mem _ hy); refine ⟨e2, tK, ?_⟩
    by_cases e3 : e2 = d
    ·subst e3
     rw [if_pos rfl]; rw [hR] at tA; rcases List.mem_cons.1 tA with rfl | h2
     ·exact absurd (hc.1 y hy) (fun h => aEy h)
     ·exact h2
    ·rw [if_neg e3]; exact tA
   ·rintro ⟨e2, tK, tA⟩
    by_cases e3 : e2 = d
    ·subst e3
     rw [if_pos rfl] at tA; have hs := h.run e2 tK; rw [hR] at hs; have hb := (List.pairwise_cons.1 hs).1 y tA; rcases List.mem_cons.1 ((h.mem y).2 ⟨e2, tK, by rw [hR]; exact List.mem_cons_of_mem _ tA⟩) with rfl | h2
     ·exact (aEy hb).elim
     ·exact h2
    ·rw [if_neg e3] at tA
     rcases List.mem_cons.1 ((h.mem y).2 ⟨e2, tK, tA⟩) with rfl | h2
     ·have h1 := h.dev e2 tK y tA
      have h2 := h.dev d hd y hxd; omega
     ·exact h2
  ·by_cases e3 : e = d
   ·subst e3
    rw [if_pos rfl]; have hs := h.run e he; rw [hR] at hs; exact (List.pairwise_cons.1 hs).2
   ·rw [if_neg e3]; exact h.run e he
  ·by_cases e3 : e = d
   ·subst e3
    rw [if_pos rfl] at hy; exact h.dev e he y (by rw [hR]; exact List.mem_cons_of_mem _ hy)
   ·rw [if_neg e3] at hy; exact h.dev e he y hy
  ·by_cases e3 : e = d
   ·subst e3
    rw [if_pos rfl] at hy; exact h.ok e he y (by rw [hR]; exact List.mem_cons_of_mem _ hy)
   ·rw [if_neg e3] at hy; exact h.ok e he y hy
theorem bB.tail {w : World} {lo hi : Nat} {a : Option Addr} {n : Nat} {l : List aA} (h : bB w lo hi a n l) (hn : 0 < n) : bB w lo hi (Option.map (fun x => x.add 8) a) (n - 1) (l.drop 1) := by
 have hl := h.1
 refine ⟨by rw [List.length_drop]; omega, fun h1 => ?_⟩
 obtain ⟨g, off, cs, e, h2, h3, hg, hs, hc⟩ := h.2 hn
 refine ⟨g, off + 8, cs, by rw [e]; rfl, h2, h3, hg, by omega, fun i hi => ?_⟩
 have e1 : (l.drop 1).getD i aA.zero = l.getD (i + 1) aA.zero := by
  rw [List.getD_eq_getElem?_getD, List.getElem?_drop, List.getD_eq_getElem?_getD, Nat.add_comm 1 i]
 rw [e1]
 have := hc (i + 1) (by omega)
 have e2 : off + 8 + i * 8 = off + (i + 1) * 8 := by omega
 rw [e2]
 exact this
theorem K6.congr {T : List aA} {R R' : Nat → List aA} (h : K6 T R) (hR : ∀ e, e < 4 → R' e = R e) : K6 T R' :=
 ⟨h.srt, fun y => (h.mem y).trans ⟨fun ⟨e, he, hy⟩ => ⟨e, he, by rw [hR e he]; exact hy⟩, fun ⟨e, he, hy⟩ => ⟨e, he, by rw [← hR e he]; exact hy⟩⟩, fun e he => by rw [hR e he]; exact h.run e he, fun e he y hy => h.dev e he y (by rw [← hR e he]; exact hy), fun e he y hy => h.ok e he y (by rw [← hR e he]; exact hy)⟩
theorem aKw (A : Nat → Option Addr) (N C : Nat → Nat) {k : Nat} (hk : k < 4) (a : Option Addr) (n c : Nat) :
  (#[.slice (A 0) (N 0) (C 0), .slice (A 1) (N 1) (C 1), .slice (A 2) (N 2) (C 2), .slice (A 3) (N 3) (C 3)] : Array Value).setIfInBounds k (.slice a n c) = #[.slice (if 0 = k then a else A 0) (if 0 = k then n else N 0) (if 0 = k then c else C 0), .slice (if 1 = k then a else A 1) (if 1 = k then n else N 1) (if 1 = k then c else C 1), .slice (if 2 = k then a else A 2) (if 2 = k then n else N 2) (if 2 = k then c else C 2), .slice (if 3 = k then a else A 3) (if 3 = k then n else N 3) (if 3 = k then c else C 3)] := by
 obtain rfl | rfl | rfl | rfl : k = 0 ∨ k = 1 ∨ k = 2 ∨ k = 3 := by omega
 all_goals simp
structure Y3 (b3 nB : Nat) (w0 : World) (L H T : List aA) (A : Nat → Option Addr) (N C : Nat → Nat) (R : Nat → List aA) (v : Value) (w' : World) : Prop where
 below : Below b3 w0 w'
 arr : w'.heap[b3]? = some (.cells #[.slice (A 0) (N 0) (C 0), .slice (A 1) (N 1) (C 1), .slice (A 2) (N 2) (C 2), .slice (A 3) (N 3) (C 3)] 106 (0, 0))
 own : ∀ e, e < 4 → bB w' (b3 + 1) nB (A e) (N e) (R e)
 cap : ∀ e, e < 4 → N e ≤ C e
 lim : ∀ e, e < 4 → N e ≤ 1048576
 hist : w'.ownsRow nB 50 8 v H.length (aH H)
 sum : H ++ T = L
 mrg : K6 T R
 hi1 : b3 + 1 ≤ nB
 hi2 : nB ≤ w'.heap.size
theorem Y3.step {b3 nB : Nat} {w0 : World} {L H T : List aA} {A : Nat → Option Addr} {N C : Nat → Nat} {R : Nat → List aA} {v : Value} {w' : World} (h : Y3 b3 nB w0 L H T A N C R v w') {w1 : World} (hb : Below w'.heap.size w' w1) : Y3 b3 nB w0 L H T A N C R v w1 :=
 ⟨h.below.trans (hb.mono (by have := h.hi1; have := h.hi2; omega)), (hb.block _ (aPv h.arr).1).trans h.arr, fun e he => (h.own e he).below hb h.hi2, h.cap, h.lim, jI h.hist hb, h.sum, h.mrg, h.hi1, Nat.le_trans h.hi2 hb.size⟩
theorem Y3.put {b3 nB : Nat} {w0 : World} {L H T : List aA} {A : Nat → Option Addr} {N C : Nat → Nat} {R : Nat → List aA} {v v' : Value} {w' w1 : World} (h : Y3 b3 nB w0 L H T A N C R v w') {k : Nat} (hk : k < 4) {x : aA} {rest : List aA} (hR : R k = x :: rest) (hp : aCa R x = true)
  (hb : Below nB w' w1) (hh : w1.ownsRow nB 50 8 v' (H.length + 1) (aH H ++ bR x)) :
  ∃ T', Y3 b3 nB w0 L (H ++ [x]) T' (fun e => if e = k then (if C k = 1 then A k else Option.map (fun y => y.add 8) (A k)) else A e) (fun e => if e = k then N k - 1 else N e) (fun e => if e = k then C k - 1 else C e) (fun e => if e = k then rest else R e) v' (w1.setCell ⟨b3, k, none⟩ (.slice (if C k = 1 then A k else Option.map (fun y => y.add 8) (A k)) (N k - 1) (C k - 1))) := by
 obtain ⟨T', hT, hm⟩ := h.mrg.step hk hR hp
 have hh1 := h.hi1
 have hh2 := h.hi2
 have hNk : 0 < N k := by have := (h.own k hk).1; rw [hR] at this; simp at this; omega
 have ha1 : w1.heap[b3]? = some (.cells #[.slice (A 0) (N 0) (C 0), .slice (A 1) (N 1) (C 1), .slice (A 2) (N 2) (C 2), .slice (A 3) (N 3) (C 3)] 106 (0, 0)) := (hb.block _ (by omega)).trans h.arr
 have jO := h.cap k hk
 refine ⟨T', ⟨(h.below.trans (hb.mono (by omega))).setCell aPw _, ?_, fun e he => ?_, fun e he => ?_, fun e he => ?_, ?_, ?_, hm, hh1, ?_⟩⟩
 ·rw [heap_setCell_same _ _ _ _ _ _ ha1, aKw A N C hk]
 ·have J3 : ∀ {a : Option Addr} {n : Nat} {l : List aA}, bB w' (b3 + 1) nB a n l → bB (w1.setCell ⟨b3, k, none⟩ (.slice (if C k = 1 then A k else Option.map (fun y => y.add 8) (A k)) (N k - 1) (C k - 1))) (b3 + 1) nB a n l := fun ho =>
   (ho.below hb aPw).kept fun q h1 h2 => heap_setCell_other _ _ _ _ (by show q ≠ b3; omega)
  by_cases hek : e = k
  ·subst hek
   simp only [if_true]
   have h1 := (h.own e he).tail hNk; have e1 : (R e).drop 1 = rest := by rw [hR]; rfl
   rw [e1] at h1
   by_cases hc1 : C e = 1
   ·have hn1 : N e - 1 = 0 := by omega
    rw [hn1] at h1 ⊢; have : rest = [] := List.eq_nil_of_length_eq_zero h1.1; rw [this]; exact dV _ _ _ _
   ·rw [if_neg hc1] at J3 ⊢
    exact J3 h1
  ·simp only [if_neg hek]
   exact J3 (h.own e he)
 ·by_cases hek : e = k
  ·simp only [if_pos hek]; omega
  ·simp only [if_neg hek]; exact h.cap e he
 ·by_cases hek : e = k
  ·simp only [if_pos hek]; have := h.lim k hk; omega
  ·simp only [if_neg hek]; exact h.lim e he
 ·have h1 : w1.ownsRow nB 50 8 v' (H ++ [x]).length (aH (H ++ [x])) := by rw [iK, List.length_append]; exact hh
  refine h1.kept (row := some b3) ⟨rfl, rfl, rfl, by simp [World.setCell], fun j hj bJ => heap_setCell_other _ _ _ _ (fun e => bJ (by rw [e]))⟩ ?_
  rcases hg : v'.ownBlock with _ | g
  ·exact .inl rfl
  ·refine .inr fun e => ?_
   injection e with e; have := (h1.lt g hg).1; omega
 ·rw [← h.sum, hT]; simp
 ·rw [World.size_setCell]; exact Nat.le_trans hh2 hb.size
end Go.Proofs.YthkagbnpcjidfaaGreatDoor
