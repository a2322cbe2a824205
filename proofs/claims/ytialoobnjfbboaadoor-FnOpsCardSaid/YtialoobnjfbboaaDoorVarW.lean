/- The walks of impl.VarOf and spec.VarOf: each returns the bytes of the encoding of its argument (none if it is negative), and writes nothing that was there. -/
import Derived.Test.YtialoobnjfbboaaDoorRows
import Derived.Test.YtialoobnjfbboaaDoorMath
import Derived.WalkKit
import Derived.WalkLawsBesides
import Derived.Laws.BytesArg
import Derived.Laws.BitsAllLaws
import Derived.Laws.Bits128
import Derived.Lib.Hide
import Derived.OpenShut
import Derived.Deep.AppendLies
namespace Go.Proofs.YtialoobnjfbboaaDoor
open Go.RowKit

theorem Tryd.infoU8 : (Tryd.prog.info? 5).map (fun i => (i.zero, i.size, i.bytes)) = some (some (.int .u8 0), 1, 1) := by kernel_rfl

/-- A slice of the call's own that holds the bytes xs, converted to a string. -/
theorem run_own_string {P : Program} {w : World} {base src dst e : Nat} {v : Value} {n : Nat} {xs : List Int} (hs : P.underlying src = some (.slice e)) (he : P.underlying e = some (.int .u8)) (hd : P.underlying dst = some .string)
    (h : w.ownsRow base e 1 v n (xs.map (Value.int .u8))) (hn : 0 < n) : (convert src dst v).run P w = .ok (.string (strOfNums xs)) w := by
  obtain ⟨g, cap, hv, _, hlt⟩ := h.form hn
  subst hv
  have hl : xs.length = n := by have := h.1; simpa using this
  refine run_convert_bytes_arg w src e hs he g 0 n cap xs hl (fun i hi => ?_) dst hd
  have := h.cells (g := g) rfl i (.int .u8 (xs.getD i 0)) (by
    rw [List.getElem?_map, List.getElem?_eq_getElem (by omega), List.getD_eq_getElem?_getD, List.getElem?_eq_getElem (by omega)]; rfl)
  have ea : (⟨g, 0, none⟩ : Addr).add i = ⟨g, 0 + i, none⟩ := by unfold Addr.add; split <;> simp_all
  rwa [ea] at this

set_option maxRecDepth 100000 in
set_option maxHeartbeats 400000 in
theorem implVar (N : Nat) (hN : Fit N) (w : World) :
    Calls Tryd.prog 14 #[.int .i64 (N : Int)] w fun e w' => e = .returned (.string (strOfNums (varNums N))) ∧ Below w.heap.size w w' := by
  obtain ⟨i0, hi, hz0, hz1, hz2⟩ := info_parts Tryd.infoU8
  go_enter Tryd.func14, Tryd.ntmps14
  go_wp2
  go_loopw [0, 3] (fun n v wr => ∃ (m : Nat) (xs : List Int), n = .int .i64 m ∧ Fit m ∧ Hid (xs ++ varNums m = varNums N) ∧ wr.ownsRow w.heap.size 5 1 v xs.length (xs.map (Value.int .u8)) ∧ Below w.heap.size w wr)
    (fun n _ _ => (intOf n).toNat)
  case atStart => exact ⟨N, [], rfl, hN, Lib.hid rfl, World.ownsRow_nil _ _ _ _, Below.refl _ _⟩
  case round =>
    obtain ⟨m, xs, rfl, hm, HX, hown, hnx⟩ := hrel
    have hlen := var_left HX.out hN
    have hB : w.heap.size ≤ wr.heap.size := hnx.size
    by_cases hlt : m < 128
    · go_wp2_with (at_builtin; refine wpList_append_own _ rfl _ _ 22 rfl w.heap.size 5 i0 (.int .u8 0) 1 1 Tryd.underlying22 hi hz0 hz1 hz2 rfl (by decide) _ _ _ rfl (hown.alloc _) ⟨wr.heap.size, 0, none⟩ 1 1 [.int .u8 (m : Int)] rfl rfl ?c1 ?c2 ?c3 ?c4 ?c5 ?_)
      case c1 =>
        intro j u hj
        match j, hj with
        | 0, hj => simp at hj; subst hj; simp [Addr.add]
      case c2 => intro u hu; simp at hu; subst hu; rfl
      case c3 => unfold maxLen; omega
      case c4 => omega
      case c5 => simp; omega
      intro v' w1 hown' hgrow _
      have hcv := run_own_string (xs := xs ++ [(m : Int)]) Tryd.underlying22 Tryd.underlying5 Tryd.underlying9 (by simpa using hown') (by omega)
      have HL : Hid (xs ++ [(m : Int)] = varNums N) := var_last HX.out hlt
      have hb1 := (hnx.alloc hB (.cells #[.int .u8 (m : Int)] 5)).grown hgrow (by simp; omega) (fun j hj => (hown.lt j hj).1)
      clear hown' hgrow hown hnx
      go_wp2
      go_ret
      exact ⟨by rw [HL.out]; rfl, hb1⟩
    · go_wp2_with (at_builtin; refine wpList_append_own _ rfl _ _ 22 rfl w.heap.size 5 i0 (.int .u8 0) 1 1 Tryd.underlying22 hi hz0 hz1 hz2 rfl (by decide) _ _ _ rfl (hown.alloc _) ⟨wr.heap.size, 0, none⟩ 1 1 [.int .u8 ((m : Int) % 128 + 128)] rfl rfl ?c1 ?c2 ?c3 ?c4 ?c5 ?_)
      case c1 =>
        intro j u hj
        match j, hj with
        | 0, hj => simp at hj; subst hj; simp [Addr.add, i64_and127]; omega
      case c2 => intro u hu; simp at hu; subst hu; rfl
      case c3 => unfold maxLen; omega
      case c4 => omega
      case c5 => simp; omega
      intro v' w1 hown' hgrow _
      have HL : Hid ((xs ++ [((m : Int) % 128 + 128)]) ++ varNums (m / 128) = varNums N) := var_step HX.out hlt
      have hb1 := (hnx.alloc hB _).grown hgrow (by simp; omega) (fun j hj => (hown.lt j hj).1)
      have HO := Lib.hid (p := w1.ownsRow w.heap.size 5 1 v' (xs ++ [((m : Int) % 128 + 128)]).length ((xs ++ [((m : Int) % 128 + 128)]).map (Value.int .u8))) (by simpa using hown')
      clear hown' hgrow hown hnx
      go_wp2
      go_roundw
      case rel => exact ⟨m / 128, _, by go_num, by unfold Fit at hm ⊢; omega, HL, HO.out, hb1⟩
      case measure => simp [intOf]; omega

set_option maxRecDepth 100000 in
set_option maxHeartbeats 400000 in
theorem l1Var (N : Nat) (hN : Fit N) (w : World) :
    Calls Tryd.prog 40 #[.int .i64 (N : Int)] w fun e w' => e = .returned (.string (strOfNums (varNums N))) ∧ Below w.heap.size w w' := by
  obtain ⟨i0, hi, hz0, hz1, hz2⟩ := info_parts Tryd.infoU8
  go_enter Tryd.func40, Tryd.ntmps40
  go_wp2
  go_loopw [0, 3] (fun n v wr => ∃ (m : Nat) (xs : List Int), n = .int .i64 m ∧ Fit m ∧ Hid (xs ++ varNums m = varNums N) ∧ wr.ownsRow w.heap.size 5 1 v xs.length (xs.map (Value.int .u8)) ∧ Below w.heap.size w wr)
    (fun n _ _ => (intOf n).toNat)
  case atStart => exact ⟨N, [], rfl, hN, Lib.hid rfl, World.ownsRow_made w #[] 0 (Nat.le_refl _) (by unfold maxLen; omega) rfl, (Below.refl _ _).alloc (Nat.le_refl _) _⟩
  case round =>
    obtain ⟨m, xs, rfl, hm, HX, hown, hnx⟩ := hrel
    have hlen := var_left HX.out hN
    have hB : w.heap.size ≤ wr.heap.size := hnx.size
    by_cases hlt : m < 128
    · go_wp2_with (at_builtin; refine wpList_append_own _ rfl _ _ 22 rfl w.heap.size 5 i0 (.int .u8 0) 1 1 Tryd.underlying22 hi hz0 hz1 hz2 rfl (by decide) _ _ _ rfl (hown.alloc _) ⟨wr.heap.size, 0, none⟩ 1 1 [.int .u8 (m : Int)] rfl rfl ?c1 ?c2 ?c3 ?c4 ?c5 ?_)
      case c1 =>
        intro j u hj
        match j, hj with
        | 0, hj => simp at hj; subst hj; simp [Addr.add]
      case c2 => intro u hu; simp at hu; subst hu; rfl
      case c3 => unfold maxLen; omega
      case c4 => omega
      case c5 => simp; omega
      intro v' w1 hown' hgrow _
      have hcv := run_own_string (xs := xs ++ [(m : Int)]) Tryd.underlying22 Tryd.underlying5 Tryd.underlying9 (by simpa using hown') (by omega)
      have HL : Hid (xs ++ [(m : Int)] = varNums N) := var_last HX.out hlt
      have hb1 := (hnx.alloc hB (.cells #[.int .u8 (m : Int)] 5)).grown hgrow (by simp; omega) (fun j hj => (hown.lt j hj).1)
      clear hown' hgrow hown hnx
      go_wp2
      go_ret
      exact ⟨by rw [HL.out]; rfl, hb1⟩
    · go_wp2_with (at_builtin; refine wpList_append_own _ rfl _ _ 22 rfl w.heap.size 5 i0 (.int .u8 0) 1 1 Tryd.underlying22 hi hz0 hz1 hz2 rfl (by decide) _ _ _ rfl (hown.alloc _) ⟨wr.heap.size, 0, none⟩ 1 1 [.int .u8 ((m : Int) % 128 + 128)] rfl rfl ?c1 ?c2 ?c3 ?c4 ?c5 ?_)
      case c1 =>
        intro j u hj
        match j, hj with
        | 0, hj => simp at hj; subst hj; simp [Addr.add]
      case c2 => intro u hu; simp at hu; subst hu; rfl
      case c3 => unfold maxLen; omega
      case c4 => omega
      case c5 => simp; omega
      intro v' w1 hown' hgrow _
      have HL : Hid ((xs ++ [((m : Int) % 128 + 128)]) ++ varNums (m / 128) = varNums N) := var_step HX.out hlt
      have hb1 := (hnx.alloc hB _).grown hgrow (by simp; omega) (fun j hj => (hown.lt j hj).1)
      have HO := Lib.hid (p := w1.ownsRow w.heap.size 5 1 v' (xs ++ [((m : Int) % 128 + 128)]).length ((xs ++ [((m : Int) % 128 + 128)]).map (Value.int .u8))) (by simpa using hown')
      clear hown' hgrow hown hnx
      go_wp2
      go_roundw
      case rel => exact ⟨m / 128, _, by rw [wrap64_div128 hm]; go_num, by unfold Fit at hm ⊢; omega, HL, HO.out, hb1⟩
      case measure => simp only [wrap64_div128 hm]; simp [intOf]; omega

theorem implVarNeg (n : Int) (h : n < 0) (w : World) :
    Calls Tryd.prog 14 #[.int .i64 n] w fun e w' => e = .returned (.string ByteArray.empty) ∧ w = w' := by
  go_enter Tryd.func14, Tryd.ntmps14
  go_wp2
  go_ret
  exact ⟨rfl, rfl⟩

end Go.Proofs.YtialoobnjfbboaaDoor
