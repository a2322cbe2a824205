/- Walks and mathematics that several claims share, part 29. -/
import Derived.Test.YthkagbnpcjidfaaGreatDoorGu24
import Derived.Laws.CopyRow
import Derived.Laws.IdiomCopy
import Derived.Deep.Onto
import Derived.Deep.Cut
import Derived.ScopeJumps
namespace Go.Proofs.YthkagbnpcjidfaaGreatDoor
open Go.RowKit
set_option linter.unusedVariables false
set_option linter.unusedSimpArgs false
theorem nC : ∀ a b : List aA, aF (a ++ b) = aF a ++ aF b
 | [], b => rfl
 | x :: a, b => by
  show bV x ++ aF (a ++ b) = (bV x ++ aF a) ++ aF b
  rw [nC a b, List.append_assoc]
theorem Q1 (o : aA) : aF [o] = bV o := by show bV o ++ [] = _; rw [List.append_nil]
theorem rQ (o : aA) : (bV o).length = 8 := rfl
theorem aGT {aW A B R O : List Value} {p q : Nat} (hc : aW = A ++ B ++ R) (hA : A.length = p) (hB : B.length = q) (hO : O.length = 8) (hR : 8 ≤ R.length) :
  ((aW.take (p + 8) ++ B ++ aW.drop (p + 8 + B.length)).take p ++ O ++ (aW.take (p + 8) ++ B ++ aW.drop (p + 8 + B.length)).drop (p + O.length)).take (p + 8 + q) = A ++ O ++ B ∧
  (aW.take (p + 8) ++ B ++ aW.drop (p + 8 + B.length)).length = aW.length ∧
  ((aW.take (p + 8) ++ B ++ aW.drop (p + 8 + B.length)).take p ++ O ++ (aW.take (p + 8) ++ B ++ aW.drop (p + 8 + B.length)).drop (p + O.length)).length = aW.length := by
 have hl : aW.length = p + q + R.length := by rw [hc, List.length_append, List.length_append, hA, hB]
 have ht : (aW.take (p + 8)).length = p + 8 := by rw [List.length_take]; omega
 have e1 : (aW.take (p + 8) ++ B ++ aW.drop (p + 8 + B.length)).take p = A := by
  rw [List.append_assoc, List.take_append_of_le_length (by omega), List.take_take, Nat.min_eq_left (by omega), hc, List.append_assoc, List.take_append_of_le_length (by omega), ← hA, List.take_length]
 have e2 : (aW.take (p + 8) ++ B ++ aW.drop (p + 8 + B.length)).drop (p + O.length) = B ++ aW.drop (p + 8 + B.length) := by
  rw [hO, List.append_assoc]; exact List.drop_left' ht
 rw [e1, e2]
 refine ⟨?_, ?_, ?_⟩
 ·rw [← List.append_assoc, List.take_append_of_le_length (by simp only [List.length_append]; omega)]
  exact List.take_of_length_le (by simp only [List.length_append]; omega)
 ·simp only [List.length_append, List.length_drop, ht]; omega
 ·simp only [List.length_append, List.length_drop]; omega
theorem aIc {row A B Z O : List Value} {p q : Nat} (hc : row = A ++ Z) (hA : A.length = p) (hB : B.length = q) (hO : O.length = 8) (hZ : 8 + q ≤ Z.length) :
  ((row.take p ++ O ++ row.drop (p + O.length)).take (p + 8) ++ B ++ (row.take p ++ O ++ row.drop (p + O.length)).drop (p + 8 + B.length)).take (p + 8 + q) = A ++ O ++ B ∧
  (row.take p ++ O ++ row.drop (p + O.length)).length = row.length ∧
  ((row.take p ++ O ++ row.drop (p + O.length)).take (p + 8) ++ B ++ (row.take p ++ O ++ row.drop (p + O.length)).drop (p + 8 + B.length)).length = row.length := by
 have hl : row.length = p + Z.length := by rw [hc, List.length_append, hA]
 have e0 : row.take p = A := by rw [hc, List.take_append_of_le_length (by omega), ← hA, List.take_length]
 have e1 : (row.take p ++ O ++ row.drop (p + O.length)).take (p + 8) = A ++ O := by
  rw [e0, List.take_append_of_le_length (by simp only [List.length_append]; omega)]
  exact List.take_of_length_le (by simp only [List.length_append]; omega)
 have hl2 : (row.take p ++ O ++ row.drop (p + O.length)).length = row.length := by
  simp only [List.length_append, List.length_take, List.length_drop]; omega
 refine ⟨?_, hl2, ?_⟩
 ·rw [e1, List.take_append_of_le_length (by simp only [List.length_append]; omega)]
  exact List.take_of_length_le (by simp only [List.length_append]; omega)
 ·rw [e1]
  simp only [List.length_append, List.length_drop, hl2]
  omega
section
variable {P : Program}
theorem qZ (w : World) (dT sT ty elem : TypeId) (g o aIK aN5 : Nat) (a : Addr) (aHF aNf : Nat) (aW : Array Value) (t : TypeId) (cs : List Value) (k : Nat)
  (hu : P.underlying dT = some (.slice elem)) (hs : (P.info? elem).map (·.size) = some k)
  (hg : w.heap[g]? = some (.cells aW t (0, 0))) (hn : cs.length = Nat.min aHF aIK * k)
  (aC2 : ∀ j v, cs[j]? = some v → w.cell? (a.add j) = some v) (aIv : o + cs.length ≤ aW.size) (h1 : ∀ v ∈ cs, v.oneCell' = true) :
  (Builtin.copy_ #[dT, sT] ty #[.slice (some ⟨g, o, none⟩) aIK aN5, .slice (some a) aHF aNf]).run P w =
   .ok (goInt (Nat.min aHF aIK)) (w.setRow g (aW.toList.take o ++ cs ++ aW.toList.drop (o + cs.length)).toArray) := by
 have hl := run_loadCells_list (P := P) w a cs aC2
 have dF := run_storeCells_at P g o t cs 0 aW w hg (by simpa using aIv) h1
 cases hq : P.info? elem with
 | none => simp [hq] at hs
 | some i =>
  have hi : i.size = k := by simpa [hq] using hs
  simp [Builtin.copy_, run_underlying hu, Builtin.lenOf, Builtin.firstCells, sizeOf, typeInfo, hq, hi, ← hn, hl, dF]
theorem aCv {o : Oper} {a : Act} {w : World} {K : Act → World → Prop} {Q : Exit → Act → World → Prop} (x y : Operand) (ts : Array TypeId) (eA : o.op = Op.call { callee := Callee.builtin Builtin.copy, args := #[x, y], argTypes := ts }) (v1 v2 : Value) {v' : Value} {w' : World} (h1 : a.eval x = v1) (h2 : a.eval y = v2)
  (hrun : (Builtin.copy_ ts o.type #[v1, v2]).run P w = .ok v' w') (hK : K (a.put o.dst v') w') : Oper.wp P o a w K Q := by
 unfold Oper.wp
 simp [execOp, eA, resolve, invoke, builtin, h1, h2, hrun, Result.andThen]
 exact hK
theorem aET {w : World} {ops : Array Oper} {rest : List Oper} {o : Oper} {a : Act} {Q : Exit → Act → World → Prop} (vO : o.guard = none) (x y : Operand) (ts : Array TypeId) (eA : o.op = Op.call { callee := Callee.builtin Builtin.copy, args := #[x, y], argTypes := ts }) (v1 v2 : Value) {v' : Value} {w' : World} (h1 : a.eval x = v1) (h2 : a.eval y = v2)
  (hrun : (Builtin.copy_ ts o.type #[v1, v2]).run P w = .ok v' w') (h : wpList P ops Q rest (a.put o.dst v') w') : wpList P ops Q (o :: rest) a w :=
 wpList_plain vO fun _ hK => aCv x y ts eA v1 v2 h1 h2 hrun (hK _ _ h)
end
def aFz (a b : aA) : Bool := K6 a.dev a.seq a.stamp a.kind a.item a.qty a.level a.undos b.dev b.seq b.stamp b.kind b.item b.qty b.level b.undos
def T3 (L : List aA) (x : aA) : Bool := decide (L.length = 0) || !(aFz (aC L 0) x)
def aCb (R : Nat → List aA) (x : aA) : Bool := (List.range 4).all fun e => T3 (R e) x
theorem aG4 {L : List aA} {x : aA} (h : 0 < L.length) : T3 L x = !(aFz (aC L 0) x) := by unfold T3; rw [decide_eq_false (by omega)]; rfl
theorem aEP {a b : aA} : K5 a b = true ↔ a.stamp < b.stamp ∨ (a.stamp = b.stamp ∧ (a.dev < b.dev ∨ (a.dev = b.dev ∧ a.seq < b.seq))) := by unfold K5 preB; exact decide_eq_true_iff
theorem aHp {a b c : aA} (h1 : K5 a b = true) (h2 : K5 b c = true) : K5 a c = true := by rw [aEP] at *; omega
theorem aEO {a : aA} (h : K5 a a = true) : False := by rw [aEP] at h; omega
theorem aKA {a b : aA} (ha : a.ok = true) (hb : b.ok = true) : aFz a b = K5 a b := by
 have ha' : dM a.dev a.seq a.stamp a.kind a.item a.qty a.level a.undos = true := ha
 have a8 : dM b.dev b.seq b.stamp b.kind b.item b.qty b.level b.undos = true := hb
 unfold aFz K6
 rw [ha', a8]
 rfl
def aER (L : List aA) : Prop := L.Pairwise fun a b => K5 a b = true
structure K9 (T : List aA) (R : Nat → List aA) : Prop where
 srt : aER T
 mem : ∀ y, y ∈ T ↔ ∃ e, e < 4 ∧ y ∈ R e
 run : ∀ e, e < 4 → aER (R e)
 dev : ∀ e, e < 4 → ∀ y ∈ R e, y.dev = (e : Int)
 ok : ∀ e, e < 4 → ∀ y ∈ R e, y.ok = true
theorem aHH {R : Nat → List aA} {x : aA} (h : aCb R x = true) {e : Nat} (he : e < 4) : T3 (R e) x = true := by
 unfold aCb at h
 rw [List.all_eq_true] at h
 exact h e (by simpa using he)
theorem aG3 {y x : aA} {r : List aA} (h : T3 (y :: r) x = true) (hy : y.ok = true) (hx : x.ok = true) : K5 y x = false := by
 rw [aG4 (by simp)] at h
 have e : aC (y :: r) 0 = y := rfl
 rw [e, aKA hy hx] at h
 simpa using h
theorem K9.step {T : List aA} {R : Nat → List aA} (h : K9 T R) {d : Nat} (hd : d < 4) {x : aA} {rest : List aA} (hR : R d = x :: rest) (hp : aCb R x = true) :
  ∃ T', T = x :: T' ∧ K9 T' (fun e => if e = d then rest else R e) := by
 have hxd : x ∈ R d := by rw [hR]; exact List.mem_cons_self
 have hxT : x ∈ T := (h.mem x).2 ⟨d, hd, hxd⟩
 have aNk := h.ok d hd x hxd
 cases T with
 | nil => cases hxT
 | cons t T' =>
  have hc := List.pairwise_cons.1 h.srt; obtain ⟨e, he, hte⟩ := (h.mem t).1 List.mem_cons_self; have htx : t = x := by
   rcases List.mem_cons.1 hxT with rfl | hx'
   ·rfl
   have hb := hc.1 x hx'
   exfalso
   have hH := aHH hp he; cases hRe : R e with
   | nil => rw [hRe] at hte; cases hte
   | cons y r =>
    rw [hRe] at hH hte; have aNi := h.ok e he y (by rw [hRe]; exact List.mem_cons_self)
    have hf := aG3 hH aNi aNk; have hs := h.run e he; rw [hRe] at hs; rcases List.mem_cons.1 hte with rfl | ht
    ·rw [hb] at hf; cases hf
    ·rw [aHp ((List.pairwise_cons.1 hs).1 t ht) hb] at hf; cases hf
  subst htx; refine ⟨T', rfl, hc.2, fun y => ?_, fun e he => ?_, fun e he y hy => ?_, fun e he y hy => ?_⟩
  ·constructor
   ·intro hy
    obtain ⟨e2, yR, sS⟩ := (h.mem y).1 (List.mem_cons_of_mem _ hy); refine ⟨e2, yR, ?_⟩
    by_cases e3 : e2 = d
    ·subst e3
     rw [if_pos rfl]; rw [hR] at sS; rcases List.mem_cons.1 sS with rfl | h2
     ·exact absurd (hc.1 y hy) (fun h => aEO h)
     ·exact h2
    ·rw [if_neg e3]; exact sS
   ·rintro ⟨e2, yR, sS⟩
    by_cases e3 : e2 = d
    ·subst e3
     rw [if_pos rfl] at sS; have hs := h.run e2 yR; rw [hR] at hs; have hb := (List.pairwise_cons.1 hs).1 y sS; rcases List.mem_cons.1 ((h.mem y).2 ⟨e2, yR, by rw [hR]; exact List.mem_cons_of_mem _ sS⟩) with rfl | h2
     ·exact (aEO hb).elim
     ·exact h2
    ·rw [if_neg e3] at sS
     rcases List.mem_cons.1 ((h.mem y).2 ⟨e2, yR, sS⟩) with rfl | h2
     ·have h1 := h.dev e2 yR y sS
      have h2 := h.dev d hd y hxd; omega
     ·exact h2
  ·by_cases e3 : e = d
   ·subst e3
    rw [if_pos rfl]; have hs := h.run e he; rw [hR] at hs; exact (List.pairwise_cons.1 hs).2
   ·rw [if_neg e3]; exact h.run e he
  ·by_cases e3 : e = d
   ·subst e3
    rw [if_pos rfl] at hy; exact h.dev e he y (by rw [hR]; exact List.mem_cons_of_mem _ hy)
   ·rw [if_neg e3] at hy; exact h.dev e he y hy
  ·by_cases e3 : e = d
   ·subst e3
    rw [if_pos rfl] at hy; exact h.ok e he y (by rw [hR]; exact List.mem_cons_of_mem _ hy)
   ·rw [if_neg e3] at hy; exact h.ok e he y hy
theorem bB.tail {w : World} {lo hi : Nat} {a : Option Addr} {n : Nat} {l : List aA} (h : bB w lo hi a n l) (hn : 0 < n) : bB w lo hi (Option.map (fun x => x.add 8) a) (n - 1) (l.drop 1) := by
 have hl := h.1
 refine ⟨by rw [List.length_drop]; omega, fun h1 => ?_⟩
 obtain ⟨g, off, cs, e, h2, h3, hg, hs, hc⟩ := h.2 hn
 refine ⟨g, off + 8, cs, by rw [e]; rfl, h2, h3, hg, by omega, fun i hi => ?_⟩
 have e1 : (l.drop 1).getD i aA.zero = l.getD (i + 1) aA.zero := by
  rw [List.getD_eq_getElem?_getD, List.getElem?_drop, List.getD_eq_getElem?_getD, Nat.add_comm 1 i]
 rw [e1]
 have := hc (i + 1) (by omega)
 have e2 : off + 8 + i * 8 = off + (i + 1) * 8 := by omega
 rw [e2]
 exact this
theorem K9.congr {T : List aA} {R R' : Nat → List aA} (h : K9 T R) (hR : ∀ e, e < 4 → R' e = R e) : K9 T R' :=
 ⟨h.srt, fun y => (h.mem y).trans ⟨fun ⟨e, he, hy⟩ => ⟨e, he, by rw [hR e he]; exact hy⟩, fun ⟨e, he, hy⟩ => ⟨e, he, by rw [← hR e he]; exact hy⟩⟩, fun e he => by rw [hR e he]; exact h.run e he, fun e he y hy => h.dev e he y (by rw [← hR e he]; exact hy), fun e he y hy => h.ok e he y (by rw [← hR e he]; exact hy)⟩
theorem aKC (A : Nat → Option Addr) (N C : Nat → Nat) {k : Nat} (hk : k < 4) (a : Option Addr) (n c : Nat) :
  (#[.slice (A 0) (N 0) (C 0), .slice (A 1) (N 1) (C 1), .slice (A 2) (N 2) (C 2), .slice (A 3) (N 3) (C 3)] : Array Value).setIfInBounds k (.slice a n c) = #[.slice (if 0 = k then a else A 0) (if 0 = k then n else N 0) (if 0 = k then c else C 0), .slice (if 1 = k then a else A 1) (if 1 = k then n else N 1) (if 1 = k then c else C 1), .slice (if 2 = k then a else A 2) (if 2 = k then n else N 2) (if 2 = k then c else C 2), .slice (if 3 = k then a else A 3) (if 3 = k then n else N 3) (if 3 = k then c else C 3)] := by
 obtain rfl | rfl | rfl | rfl : k = 0 ∨ k = 1 ∨ k = 2 ∨ k = 3 := by omega
 all_goals simp
structure Y5 (b3 nB : Nat) (w0 : World) (L H T : List aA) (A : Nat → Option Addr) (N C : Nat → Nat) (R : Nat → List aA) (v : Value) (w' : World) : Prop where
 below : Below b3 w0 w'
 arr : w'.heap[b3]? = some (.cells #[.slice (A 0) (N 0) (C 0), .slice (A 1) (N 1) (C 1), .slice (A 2) (N 2) (C 2), .slice (A 3) (N 3) (C 3)] 106 (0, 0))
 own : ∀ e, e < 4 → bB w' (b3 + 1) nB (A e) (N e) (R e)
 cap : ∀ e, e < 4 → N e ≤ C e
 lim : ∀ e, e < 4 → N e ≤ 1048576
 hist : w'.ownsRow nB 50 8 v H.length (aF H)
 sum : H ++ T = L
 mrg : K9 T R
 hi1 : b3 + 1 ≤ nB
 hi2 : nB ≤ w'.heap.size
theorem Y5.step {b3 nB : Nat} {w0 : World} {L H T : List aA} {A : Nat → Option Addr} {N C : Nat → Nat} {R : Nat → List aA} {v : Value} {w' : World} (h : Y5 b3 nB w0 L H T A N C R v w') {w1 : World} (hb : Below w'.heap.size w' w1) : Y5 b3 nB w0 L H T A N C R v w1 :=
 ⟨h.below.trans (hb.mono (by have := h.hi1; have := h.hi2; omega)), (hb.block _ (aPp h.arr).1).trans h.arr, fun e he => (h.own e he).below hb h.hi2, h.cap, h.lim, yC h.hist hb, h.sum, h.mrg, h.hi1, Nat.le_trans h.hi2 hb.size⟩
theorem Y5.put {b3 nB : Nat} {w0 : World} {L H T : List aA} {A : Nat → Option Addr} {N C : Nat → Nat} {R : Nat → List aA} {v v' : Value} {w' w1 : World} (h : Y5 b3 nB w0 L H T A N C R v w') {k : Nat} (hk : k < 4) {x : aA} {rest : List aA} (hR : R k = x :: rest) (hp : aCb R x = true)
  (hb : Below nB w' w1) (hh : w1.ownsRow nB 50 8 v' (H.length + 1) (aF H ++ bV x)) :
  ∃ T', Y5 b3 nB w0 L (H ++ [x]) T' (fun e => if e = k then (if C k = 1 then A k else Option.map (fun y => y.add 8) (A k)) else A e) (fun e => if e = k then N k - 1 else N e) (fun e => if e = k then C k - 1 else C e) (fun e => if e = k then rest else R e) v' (w1.setCell ⟨b3, k, none⟩ (.slice (if C k = 1 then A k else Option.map (fun y => y.add 8) (A k)) (N k - 1) (C k - 1))) := by
 obtain ⟨T', hT, hm⟩ := h.mrg.step hk hR hp
 have hh1 := h.hi1
 have hh2 := h.hi2
 have hNk : 0 < N k := by have := (h.own k hk).1; rw [hR] at this; simp at this; omega
 have ha1 : w1.heap[b3]? = some (.cells #[.slice (A 0) (N 0) (C 0), .slice (A 1) (N 1) (C 1), .slice (A 2) (N 2) (C 2), .slice (A 3) (N 3) (C 3)] 106 (0, 0)) := (hb.block _ (by omega)).trans h.arr
 have jJ := h.cap k hk
 refine ⟨T', ⟨(h.below.trans (hb.mono (by omega))).setCell aPq _, ?_, fun e he => ?_, fun e he => ?_, fun e he => ?_, ?_, ?_, hm, hh1, ?_⟩⟩
 ·rw [heap_setCell_same _ _ _ _ _ _ ha1, aKC A N C hk]
 ·have J9 : ∀ {a : Option Addr} {n : Nat} {l : List aA}, bB w' (b3 + 1) nB a n l → bB (w1.setCell ⟨b3, k, none⟩ (.slice (if C k = 1 then A k else Option.map (fun y => y.add 8) (A k)) (N k - 1) (C k - 1))) (b3 + 1) nB a n l := fun ho =>
   (ho.below hb aPq).kept fun q h1 h2 => heap_setCell_other _ _ _ _ (by show q ≠ b3; omega)
  by_cases hek : e = k
  ·subst hek
   simp only [if_true]
   have h1 := (h.own e he).tail hNk; have e1 : (R e).drop 1 = rest := by rw [hR]; rfl
   rw [e1] at h1
   by_cases hc1 : C e = 1
   ·have hn1 : N e - 1 = 0 := by omega
    rw [hn1] at h1 ⊢; have : rest = [] := List.eq_nil_of_length_eq_zero h1.1; rw [this]; exact fH _ _ _ _
   ·rw [if_neg hc1] at J9 ⊢
    exact J9 h1
  ·simp only [if_neg hek]
   exact J9 (h.own e he)
 ·by_cases hek : e = k
  ·simp only [if_pos hek]; omega
  ·simp only [if_neg hek]; exact h.cap e he
 ·by_cases hek : e = k
  ·simp only [if_pos hek]; have := h.lim k hk; omega
  ·simp only [if_neg hek]; exact h.lim e he
 ·have h1 : w1.ownsRow nB 50 8 v' (H ++ [x]).length (aF (H ++ [x])) := by rw [jD, List.length_append]; exact hh
  refine h1.kept (row := some b3) ⟨rfl, rfl, rfl, by simp [World.setCell], fun j hj bO => heap_setCell_other _ _ _ _ (fun e => bO (by rw [e]))⟩ ?_
  rcases hg : v'.ownBlock with _ | g
  ·exact .inl rfl
  ·refine .inr fun e => ?_
   injection e with e; have := (h1.lt g hg).1; omega
 ·rw [← h.sum, hT]; simp
 ·rw [World.size_setCell]; exact Nat.le_trans hh2 hb.size
end Go.Proofs.YthkagbnpcjidfaaGreatDoor
