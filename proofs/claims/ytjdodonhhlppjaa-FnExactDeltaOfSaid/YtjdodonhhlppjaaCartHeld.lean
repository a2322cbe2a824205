/- laws.markCart with what the cart holds behind it, and laws.heldCart. -/
import Derived.Test.YtjdodonhhlppjaaOwnM
import Derived.Deep.Cut
namespace Go.Proofs.Ytjdodonhhlppjaa
open Go.RowKit

set_option maxRecDepth 100000 in
set_option maxHeartbeats 1000000 in
theorem markCartM (w : World) (lo mid hi : Nat) (av ao : Option Addr) (nv cv no co : Nat) (xs : List Int) (l : List OpV) (hx : Own w lo mid av nv xs) (h : OwnOps w mid hi ao no l) (h1 : lo ≤ mid) (h2 : mid ≤ hi) (hh : hi ≤ w.heap.size) (hv : nv ≤ 1048576) (hn : no ≤ 1048576) (k : Nat) (hk0 : 0 < k) (hk : k ≤ 9000000) :
    Calls Try.prog 18 #[.agg #[.slice av nv cv, .slice ao no co], .int .i64 (k : Int)] w fun e w' => (∃ m : Nat, Hid (m = k + nv + 8 * no) ∧ e = .returned (.int .i64 (m : Int))) ∧ Own w' lo mid av nv (marks k nv) ∧ OwnOps w' mid hi ao no (opMarks (k + nv) no) ∧ Beside lo hi w w' := by
  have hb0 : Below w.heap.size w (w.alloc (.cells #[.slice av nv cv, .slice ao no co] 30)) := (Below.refl _ w).alloc (Nat.le_refl _) _
  have HV := Lib.hid (hx.below hb0 (by omega))
  have HO := Lib.hid (h.below hb0 hh)
  have HB : Hid (Beside lo hi w (w.alloc (.cells #[.slice av nv cv, .slice ao no co] 30))) := Below.beside hb0
  have HX := Lib.hid (boxAt (Below.refl _ (w.alloc (.cells #[.slice av nv cv, .slice ao no co] 30))))
  have hsz : w.heap.size < (w.alloc (.cells #[.slice av nv cv, .slice ao no co] 30)).heap.size := by show _ < (w.heap.push _).size; simp
  clear hx h hb0
  go_enter Try.func18, Try.ntmps18
  go_wp2_with fail
  generalize w.alloc (.cells #[.slice av nv cv, .slice ao no co] 30) = w0 at HV HO HB HX hsz ⊢
  refine (mark w0 lo mid av nv cv xs HV.out k (by omega) hv).mono ?_
  rintro e w1 ⟨⟨m, hm, rfl⟩, ho, hO⟩
  have HO1 : Hid (OwnOps w1 mid hi ao no l) := HO.out.kept fun j h1 h2 => hO.block j (by omega)
  have HX1 := Lib.hid ((hO.block _ (.inr (by omega))).trans HX.out)
  have HB1 := Lib.hid (HB.out.trans (hO.beside.wide (Nat.le_refl _) h2))
  have hs1 : w.heap.size < w1.heap.size := by have := hO.size; omega
  have hmb : 0 < m ∧ m ≤ 10048577 := by omega
  obtain ⟨hm0, hm1⟩ := hmb
  have HMm := Lib.hid hm
  have HV1 := Lib.hid ho
  clear ho hO HX HV HO HB hm
  obtain ⟨c0, c1⟩ := pair_cells HX1.out
  go_wp2_with fail
  refine (markOps w1 mid hi ao no co l HO1.out m hm0 (by omega) hn).mono ?_
  rintro e w2 ⟨⟨m2, hm2, rfl⟩, ho2, hO⟩
  have HV2 : Hid (Own w2 lo mid av nv (marks k nv)) := HV1.out.kept fun j h1 h2 => hO.block j (by omega) (.inl h2)
  have HP2 : Hid (OwnOps w2 mid hi ao no (opMarks (k + nv) no)) := by
    have e : k + nv = m := by have := HMm.out; omega
    rw [e]
    exact ho2
  have HB2 := Lib.hid (HB1.out.trans (hO.wide h1 (Nat.le_refl _)))
  have hm2' : Hid (m2 = k + nv + 8 * no) := by have := HMm.out; show _ = _; omega
  clear hO c0 c1 HX1 HB1 HO1 hm2 HMm HV1 ho2
  go_wp2
  go_ret
  exact ⟨⟨m2, hm2', rfl⟩, HV2.out, HP2.out, HB2.out⟩

set_option maxRecDepth 100000 in
set_option maxHeartbeats 1000000 in
theorem heldCart (w : World) (B : Nat) (av ao : Option Addr) (nv cv no co k : Nat) (hx : Ints w B av nv (marks k nv)) (h : Ops w B ao no (opMarks (k + nv) no)) (hB : B ≤ w.heap.size) (hv : nv ≤ 1048576) (hn : no ≤ 1048576) (hk0 : 0 < k) (hk : k ≤ 1000000) :
    Calls Try.prog 25 #[.agg #[.slice av nv cv, .slice ao no co], .int .i64 (k : Int)] w fun e w' => e = .returned (.int .i64 ((k + nv + 8 * no : Nat) : Int)) ∧ Below w.heap.size w w' := by
  have hb0 : Below w.heap.size w (w.alloc (.cells #[.slice av nv cv, .slice ao no co] 30)) := (Below.refl _ w).alloc (Nat.le_refl _) _
  have HV := Lib.hid (hx.below hb0 hB)
  have HO := Lib.hid (h.below hb0 hB)
  have HB := Lib.hid hb0
  have HX := Lib.hid (boxAt (Below.refl _ (w.alloc (.cells #[.slice av nv cv, .slice ao no co] 30))))
  have hsz : w.heap.size < (w.alloc (.cells #[.slice av nv cv, .slice ao no co] 30)).heap.size := by show _ < (w.heap.push _).size; simp
  have hBw := hB
  clear hx h hb0 hB
  go_enter Try.func25, Try.ntmps25
  go_wp2_with fail
  generalize w.alloc (.cells #[.slice av nv cv, .slice ao no co] 30) = w0 at HV HO HB HX hsz ⊢
  refine (held w0 B av nv cv k HV.out (by omega) hv).mono ?_
  rintro e w1 ⟨rfl, rfl⟩
  have hk1 : 0 < k + nv := by omega
  have hk2 : k + nv ≤ 20000000 := by omega
  have hd1 : ¬ (((k + nv : Nat) : Int) < 0) := by omega
  obtain ⟨c0, c1⟩ := pair_cells HX.out
  generalize hkn : k + nv = kn at HO hk1 hk2 hd1 ⊢
  go_wp2_with fail
  refine (heldOps w0 B ao no co kn HO.out (by omega) hk1 hk2 hn).mono ?_
  rintro e w2 ⟨rfl, hb2⟩
  have HB2 := Lib.hid (HB.out.trans (hb2.mono (by omega)))
  have hd2 : ¬ (((kn + 8 * no : Nat) : Int) < 0) := by omega
  generalize hkm : kn + 8 * no = km at hd2 ⊢
  have HK2 : Hid (k + nv + 8 * no = km) := by show _ = _; omega
  clear hb2 c0 c1 hkm hkn
  go_wp2
  go_ret
  exact ⟨by rw [HK2.out]; rfl, HB2.out⟩
end Go.Proofs.Ytjdodonhhlppjaa
