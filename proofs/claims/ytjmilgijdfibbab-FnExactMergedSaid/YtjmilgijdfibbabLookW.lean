/- The walks of counterpart (an operation looked up in a list) and of spec.l4At. -/
import Derived.Test.YtjmilgijdfibbabFindW
import Derived.Test.YtjmilgijdfibbabOpSet
import Derived.Deep.Cut
namespace Go.Proofs.Ytjmilgijdfibbab
open Go.RowKit

/-- An operation as a value. -/
def opVal (x : OpV) : Value := .agg #[.int .i64 x.dev, .int .i64 x.seq, .int .i64 x.stamp, .int .i64 x.kind, .string x.item, .int .i64 x.qty, .int .i64 x.level, .int .i64 x.undos]
def Looked (l : List OpV) (x : OpV) (v : Value) : Prop := (∃ i, i < l.length ∧ eqN l i x.dev x.seq ∧ v = .tuple #[opVal (atOp l i), .bool true]) ∨ ((∀ j, j < l.length → ¬ eqN l j x.dev x.seq) ∧ v = .tuple #[.agg #[.int .i64 0, .int .i64 0, .int .i64 0, .int .i64 0, .string ⟨#[]⟩, .int .i64 0, .int .i64 0, .int .i64 0], .bool false])
/-- Three blocks that a call has laid first: two arguments and a result. -/
structure TriF (w w1 : World) (x y z : Array Value) (S T U : TypeId) : Prop where
  fst : w1.heap[w.heap.size]? = some (.cells x S (0, 0))
  snd : w1.heap[w.heap.size + 1]? = some (.cells y T (0, 0))
  res : w1.heap[w.heap.size + 1 + 1]? = some (.cells z U (0, 0))
  bel : Below w.heap.size w w1
theorem TriF.mk0 (w : World) (x y z : Array Value) (S T U : TypeId) : TriF w (((w.alloc (.cells x S)).alloc (.cells y T)).alloc (.cells z U)) x y z S T U := by
  have e1 : (w.alloc (.cells x S)).heap.size = w.heap.size + 1 := by simp
  have e2 : ((w.alloc (.cells x S)).alloc (.cells y T)).heap.size = w.heap.size + 1 + 1 := by simp
  refine ⟨?_, ?_, ?_, (((Below.refl _ w).alloc (Nat.le_refl _) _).alloc (by simp) _).alloc (by simp; omega) _⟩
  · rw [Below.heap_alloc _ _ _ (by omega), Below.heap_alloc _ _ _ (by omega)]
    exact heap_alloc_new w _
  · rw [Below.heap_alloc _ _ _ (by omega), ← e1]
    exact heap_alloc_new _ _
  · rw [← e2]
    exact heap_alloc_new _ _
theorem TriF.next {w w1 w2 : World} {x y z : Array Value} {S T U : TypeId} (h : TriF w w1 x y z S T U) (hb : Below w1.heap.size w1 w2) : TriF w w2 x y z S T U :=
  ⟨(hb.block _ (Array.getElem?_eq_some_iff.1 h.fst).1).trans h.fst, (hb.block _ (Array.getElem?_eq_some_iff.1 h.snd).1).trans h.snd, (hb.block _ (Array.getElem?_eq_some_iff.1 h.res).1).trans h.res, h.bel.trans (hb.mono h.bel.size)⟩
set_option maxRecDepth 100000 in
set_option maxHeartbeats 4000000 in
theorem counterpart (w : World) (B : Nat) (a : Option Addr) (n c : Nat) (l : List OpV) (x : OpV) (h : Ops w B a n l) (hB : B ≤ w.heap.size) (hn : n ≤ 1048576) (hinc : incB l = true) :
    Calls Try.prog 66 #[.agg #[.slice a n c, .func (.func 86) #[] #[]], .agg #[.int .i64 x.dev, .int .i64 x.seq, .int .i64 x.stamp, .int .i64 x.kind, .string x.item, .int .i64 x.qty, .int .i64 x.level, .int .i64 x.undos]] w fun e w' => (∃ v, e = .returned v ∧ Looked l x v) ∧ Below w.heap.size w w' := by
  have HT := Lib.hid (TriF.mk0 w #[.slice a n c, .func (.func 86) #[] #[]] #[.int .i64 x.dev, .int .i64 x.seq, .int .i64 x.stamp, .int .i64 x.kind, .string x.item, .int .i64 x.qty, .int .i64 x.level, .int .i64 x.undos] #[.int .i64 0, .int .i64 0, .int .i64 0, .int .i64 0, .string ⟨#[]⟩, .int .i64 0, .int .i64 0, .int .i64 0] 78 66 66)
  have HO := Lib.hid (h.below HT.out.bel hB)
  have HL := Lib.hid h.1
  have HInc := Lib.hid hinc
  clear hinc h
  go_enter Try.func66, Try.ntmps66
  go_wp2_with fail
  generalize ((w.alloc (.cells #[.slice a n c, .func (.func 86) #[] #[]] 78)).alloc (.cells #[.int .i64 x.dev, .int .i64 x.seq, .int .i64 x.stamp, .int .i64 x.kind, .string x.item, .int .i64 x.qty, .int .i64 x.level, .int .i64 x.undos] 66)).alloc (.cells #[.int .i64 0, .int .i64 0, .int .i64 0, .int .i64 0, .string ⟨#[]⟩, .int .i64 0, .int .i64 0, .int .i64 0] 66) = w0 at HT HO ⊢
  have hs0 := HT.out.bel.size
  have hlt0 := (Array.getElem?_eq_some_iff.1 HT.out.res).1
  refine (binSearch w0 B a n c l x HO.out (by omega) hn HInc.out).mono ?_
  rintro e w1 ⟨⟨i, b, rfl, hfo⟩, hb1⟩
  have HF := Lib.hid hfo
  have HT1 := Lib.hid (HT.out.next hb1)
  have HO1 := Lib.hid (HO.out.below hb1 (by omega))
  have hs1 := hb1.size
  clear hfo hb1 HT HO
  cases b
  · have HNo := Lib.hid (HF.out.2.2 rfl)
    go_upto_region 4 with fail
    have hb2 : Below w1.heap.size w1 (w1.alloc (.cells #[.int .i64 0, .int .i64 0, .int .i64 0, .int .i64 0, .string ⟨#[]⟩, .int .i64 0, .int .i64 0, .int .i64 0] 66)) := (Below.refl _ _).alloc (Nat.le_refl _) _
    have HZ := Lib.hid (boxAt (Below.refl _ (w1.alloc (.cells #[.int .i64 0, .int .i64 0, .int .i64 0, .int .i64 0, .string ⟨#[]⟩, .int .i64 0, .int .i64 0, .int .i64 0] 66))))
    have HT2 := Lib.hid (HT1.out.next hb2)
    generalize w1.alloc (.cells #[.int .i64 0, .int .i64 0, .int .i64 0, .int .i64 0, .string ⟨#[]⟩, .int .i64 0, .int .i64 0, .int .i64 0] 66) = w2 at hb2 HZ HT2 ⊢
    generalize w1.heap.size = nz at HZ ⊢
    clear hb2 HT1 HO1
    obtain ⟨c0, c1, c2, c3, c4, c5, c6, c7⟩ := op_cells HZ.out
    obtain ⟨e0, e1, e2, e3, e4, e5, e6, e7⟩ := op_cells HT2.out.res
    obtain ⟨f0, f1, f2, f3, f4, f5, f6, f7⟩ := op_frozen HT2.out.res
    go_wp2
    have HX := Lib.hid (setOp_same (.int .i64 0) (.int .i64 0) (.int .i64 0) (.int .i64 0) (.string ⟨#[]⟩) (.int .i64 0) (.int .i64 0) (.int .i64 0) HT2.out.res)
    have HB := Lib.hid (setOp_below (.int .i64 0) (.int .i64 0) (.int .i64 0) (.int .i64 0) (.string ⟨#[]⟩) (.int .i64 0) (.int .i64 0) (.int .i64 0) HT2.out.bel (by show _ ≤ w.heap.size + 1 + 1; omega))
    clear c0 c1 c2 c3 c4 c5 c6 c7 e0 e1 e2 e3 e4 e5 e6 e7 f0 f1 f2 f3 f4 f5 f6 f7
    change bodyPost _ _ _ _ _ (setOp w2 (w.heap.size + 1 + 1) (.int .i64 0) (.int .i64 0) (.int .i64 0) (.int .i64 0) (.string ⟨#[]⟩) (.int .i64 0) (.int .i64 0) (.int .i64 0))
    generalize setOp w2 (w.heap.size + 1 + 1) (.int .i64 0) (.int .i64 0) (.int .i64 0) (.int .i64 0) (.string ⟨#[]⟩) (.int .i64 0) (.int .i64 0) (.int .i64 0) = wf at HX HB ⊢
    obtain ⟨d0, d1, d2, d3, d4, d5, d6, d7⟩ := op_cells HX.out
    exact bodyPost_ret (v := .tuple #[.agg #[.int .i64 0, .int .i64 0, .int .i64 0, .int .i64 0, .string ⟨#[]⟩, .int .i64 0, .int .i64 0, .int .i64 0], .bool false]) (by simp [results, Try.results66, go_sem, d0, d1, d2, d3, d4, d5, d6, d7]) rfl ⟨⟨_, rfl, .inr ⟨HNo.out, rfl⟩⟩, HB.out⟩
  · have HYes := Lib.hid (HF.out.2.1 rfl)
    have hin : i < n := by rw [← HL.out]; exact HYes.out.1
    have hini : (i : Int) < (n : Int) := by omega
    obtain ⟨b, off, rfl, hb, ho⟩ := HO1.out.2 i hin
    have HOk : Hid (OpAt w1 b (off + i * 8) (atOp l i)) := ho
    clear ho HF
    have HYe : Hid (∃ j, j < l.length ∧ eqN l j x.dev x.seq ∧ atOp l j = atOp l i) := ⟨i, HYes.out.1, HYes.out.2, rfl⟩
    have HRet : Hid (Looked l x (.tuple #[opVal (atOp l i), .bool true])) := .inl ⟨i, HYes.out.1, HYes.out.2, rfl⟩
    clear HYe HYes
    generalize atOp l i = y at HOk HRet
    obtain ⟨a0, a1⟩ := pair_cells HT1.out.fst
    obtain ⟨c0, c1, c2, c3, c4, c5, c6, c7⟩ := HOk.out
    obtain ⟨e0, e1, e2, e3, e4, e5, e6, e7⟩ := op_cells HT1.out.res
    obtain ⟨f0, f1, f2, f3, f4, f5, f6, f7⟩ := op_frozen HT1.out.res
    go_wp2
    have HX := Lib.hid (setOp_same (.int .i64 y.dev) (.int .i64 y.seq) (.int .i64 y.stamp) (.int .i64 y.kind) (.string y.item) (.int .i64 y.qty) (.int .i64 y.level) (.int .i64 y.undos) HT1.out.res)
    have HB := Lib.hid (setOp_below (.int .i64 y.dev) (.int .i64 y.seq) (.int .i64 y.stamp) (.int .i64 y.kind) (.string y.item) (.int .i64 y.qty) (.int .i64 y.level) (.int .i64 y.undos) HT1.out.bel (by show _ ≤ w.heap.size + 1 + 1; omega))
    clear a0 a1 c0 c1 c2 c3 c4 c5 c6 c7 e0 e1 e2 e3 e4 e5 e6 e7 f0 f1 f2 f3 f4 f5 f6 f7
    change bodyPost _ _ _ _ _ (setOp w1 (w.heap.size + 1 + 1) (.int .i64 y.dev) (.int .i64 y.seq) (.int .i64 y.stamp) (.int .i64 y.kind) (.string y.item) (.int .i64 y.qty) (.int .i64 y.level) (.int .i64 y.undos))
    generalize setOp w1 (w.heap.size + 1 + 1) (.int .i64 y.dev) (.int .i64 y.seq) (.int .i64 y.stamp) (.int .i64 y.kind) (.string y.item) (.int .i64 y.qty) (.int .i64 y.level) (.int .i64 y.undos) = wf at HX HB ⊢
    obtain ⟨d0, d1, d2, d3, d4, d5, d6, d7⟩ := op_cells HX.out
    exact bodyPost_ret (v := .tuple #[.agg #[.int .i64 y.dev, .int .i64 y.seq, .int .i64 y.stamp, .int .i64 y.kind, .string y.item, .int .i64 y.qty, .int .i64 y.level, .int .i64 y.undos], .bool true]) (by simp [results, Try.results66, go_sem, d0, d1, d2, d3, d4, d5, d6, d7]) rfl ⟨⟨_, rfl, HRet.out⟩, HB.out⟩

set_option maxRecDepth 100000 in
set_option maxHeartbeats 2000000 in
theorem l4At (w : World) (B : Nat) (a : Option Addr) (n c : Nat) (l : List OpV) (dev seq : Int) (h : Ops w B a n l) (hn : n ≤ 1048576) :
    Calls Try.prog 79 #[.slice a n c, .int .i64 dev, .int .i64 seq] w fun e w' => ((∃ i : Nat, i < n ∧ eqN l i dev seq ∧ e = .returned (.int .i64 (i : Int))) ∨ ((∀ j, j < n → ¬ eqN l j dev seq) ∧ e = .returned (.int .i64 (-1)))) ∧ w = w' := by
  have H := Lib.hid h
  clear h
  go_enter Try.func79, Try.ntmps79
  go_wp2
  go_loop [7] (fun i => ∃ k : Nat, k ≤ n ∧ i = .int .i64 (k : Int) ∧ Hid (∀ j, j < k → ¬ eqN l j dev seq)) (fun i => n - (intOf i).toNat)
  case atStart => exact ⟨0, by omega, rfl, fun j hj => absurd hj (by omega)⟩
  case round =>
    obtain ⟨k, hk, rfl, HN⟩ := hrel
    by_cases hlt : k < n
    rotate_left
    · obtain rfl : k = n := by omega
      go_wp2
      go_ret
      exact ⟨.inr ⟨HN.out, rfl⟩, rfl⟩
    obtain ⟨b, off, rfl, hb, ho⟩ := H.out.2 k hlt
    have hok : OpAt w b (off + k * 8) (atOp l k) := ho
    clear ho
    have HE : Hid (∀ a b, a = (atOp l k).dev → b = (atOp l k).seq → (a = dev ∧ b = seq ↔ eqN l k dev seq)) := fun a b h1 h2 => by subst h1 h2; exact Iff.rfl
    have HS : Hid (¬ eqN l k dev seq → ∀ j, j < k + 1 → ¬ eqN l j dev seq) := fun h j hj => by
      rcases Nat.lt_or_ge j k with h1 | h1
      · exact HN.out j h1
      · obtain rfl : j = k := by omega
        exact h
    obtain ⟨c0, c1, c2, c3, c4, c5, c6, c7⟩ := hok
    have HE2 := Lib.hid (HE.out _ _ rfl rfl)
    clear HE
    generalize (atOp l k).dev = xd at c0 HE2
    generalize (atOp l k).seq = xq at c1 HE2
    by_cases h1 : xd = dev
    · have b1 : (xd == dev) = true := by rw [h1]; exact beq_self_eq_true _
      by_cases h2 : xq = seq
      · have b2 : (xq == seq) = true := by rw [h2]; exact beq_self_eq_true _
        have HF := Lib.hid (HE2.out.1 ⟨h1, h2⟩)
        clear h1 h2
        go_wp2
        go_ret
        exact ⟨.inl ⟨k, hlt, HF.out, rfl⟩, rfl⟩
      · have b2 : (xq == seq) = false := by rw [beq_eq_false_iff_ne]; exact h2
        have HF := Lib.hid (HS.out (fun h => h2 (HE2.out.2 h).2))
        clear h1 h2
        go_wp2
        go_round
        case rel => exact ⟨k + 1, by omega, by go_num, HF⟩
        case measure => simp [intOf]; omega
    · have b1 : (xd == dev) = false := by rw [beq_eq_false_iff_ne]; exact h1
      have HF := Lib.hid (HS.out (fun h => h1 (HE2.out.2 h).1))
      clear h1
      go_wp2
      go_round
      case rel => exact ⟨k + 1, by omega, by go_num, HF⟩
      case measure => simp [intOf]; omega
end Go.Proofs.Ytjmilgijdfibbab
