/- The walks of LevelOf, the model's and the program's. -/
import Derived.Test.YtideaompdbdbhaaStateOfW
import Derived.Deep.Cut
namespace Go.Proofs.Ytideaompdbdbhaa
open Go.RowKit

def levelN (xs : List Int) (l : List OpV) (item : ByteArray) : Int := if cartB xs l = true then levTo item l l.length else 0
theorem state_level (xs : List Int) (l : List OpV) (item : ByteArray) : (stateV item (counted xs l)).level = levelN xs l item := by
  unfold counted levelN
  by_cases hc : cartB xs l = true
  · rw [if_pos hc, if_pos hc, state_to hc item _ (Nat.le_refl _)]
  · rw [if_neg hc, if_neg hc]
    rfl

theorem Try.fieldLevel (s : StV) (w : World) : Sem.run Try.prog (Instr.field 56 (.agg s.cells) 0) w = .ok (.int .i64 s.level) w := by kernel_rfl
set_option maxRecDepth 100000 in
set_option maxHeartbeats 2000000 in
theorem l5Level (w : World) (B : Nat) (av ao : Option Addr) (nv cv no co : Nat) (xs : List Int) (l : List OpV) (item : ByteArray) (h : Ops w B ao no l) (hB : B ≤ w.heap.size) (hn : no ≤ 1048576) (hc : cartB xs l = true) : Calls Try.prog 35 #[.agg #[.slice av nv cv, .slice ao no co], .string item] w fun e w' => e = .returned (.int .i64 (levTo item l l.length)) ∧ Below w.heap.size w w' := by
  have hb0 : Below w.heap.size w (w.alloc (.cells #[.slice av nv cv, .slice ao no co] 37)) := (Below.refl _ w).alloc (Nat.le_refl _) _
  have HO := Lib.hid (h.below hb0 hB)
  have HB := Lib.hid hb0
  have HX := Lib.hid (boxAt (Below.refl _ (w.alloc (.cells #[.slice av nv cv, .slice ao no co] 37))))
  have HL := Lib.hid h.1
  have hsz : w.heap.size < (w.alloc (.cells #[.slice av nv cv, .slice ao no co] 37)).heap.size := by show _ < (w.heap.push _).size; simp
  have HC : Hid (∀ k, k < no → 0 ≤ (l.getD k OpV.zero).undos) := fun k hk => by
    obtain ⟨_, _, _, _, _, hok, _, _⟩ := cart_at hc (i := k) (by rw [h.1]; exact hk)
    exact (undos_of hok).1
  clear h hb0 hc
  go_enter Try.func35, Try.ntmps35
  go_wp2_with fail
  generalize w.alloc (.cells #[.slice av nv cv, .slice ao no co] 37) = w0 at HO HB HX hsz ⊢
  go_wp2
  go_loopw [5, 6] (fun n i wr => ∃ k : Nat, k ≤ no ∧ i = .int .i64 k ∧ n = .int .i64 (levTo item l k) ∧ Hid (Below w0.heap.size w0 wr)) (fun _ i _ => no - (intOf i).toNat)
  case atStart => exact ⟨0, Nat.zero_le _, rfl, rfl, Below.refl _ _⟩
  case round =>
    obtain ⟨k, hk, rfl, rfl, HBr⟩ := hrel
    obtain ⟨c0, c1⟩ := pair_cells ((HBr.out.block _ hsz).trans HX.out)
    by_cases hlt : k < no
    rotate_left
    · obtain rfl : k = no := by omega
      go_wp2
      go_ret
      exact ⟨by rw [HL.out]; rfl, HB.out.trans (HBr.out.mono HB.out.size)⟩
    obtain ⟨b, off, rfl, hb, ho⟩ := HO.out.2 k hlt
    obtain ⟨d0, d1, d2, d3, d4, d5, d6, d7⟩ := ho.kept (HBr.out.block b (by omega))
    have hu0 := HC.out k hlt
    have HU : Hid (levTo item l (k + 1) = if (l.getD k OpV.zero).item = item ∧ (l.getD k OpV.zero).undos % 2 = 0 then max (levTo item l k) (l.getD k OpV.zero).level else levTo item l k) := rfl
    have HO1 := Lib.hid ho
    clear ho
    generalize l.getD k OpV.zero = x at HU hu0 d0 d1 d2 d3 d4 d5 d6 d7 HO1
    by_cases hd : x.item = item
    rotate_left
    · have hbq : (x.item.toList == item.toList) = false := by rw [beq_eq_false_iff_ne]; exact fun h => hd (text_ext h)
      have HE : Hid (levTo item l (k + 1) = levTo item l k) := by show _ = _; rw [HU.out, if_neg (fun h => hd h.1)]
      clear hd HU
      go_wp2
      go_roundw
      case rel => exact ⟨k + 1, by omega, by go_num, by rw [HE.out], HBr⟩
      case measure => simp [intOf]; omega
    have hbq : (x.item.toList == item.toList) = true := by rw [hd]; exact beq_self_eq_true _
    have HD := Lib.hid hd
    clear hd
    go_wp2_with fail
    refine (l3Live x.dev x.seq x.stamp x.kind x.item x.qty x.level x.undos _ hu0).mono ?_
    rintro e w2 ⟨rfl, hb2⟩
    have HB2 := Lib.hid (HBr.out.trans (hb2.mono HBr.out.size))
    clear hb2 c0 c1 d0 d1 d2 d3 d4 d5 d6 d7
    obtain ⟨c0, c1⟩ := pair_cells ((HB2.out.block _ hsz).trans HX.out)
    obtain ⟨d0, d1, d2, d3, d4, d5, d6, d7⟩ := HO1.out.kept (HB2.out.block b (by omega))
    by_cases hu : x.undos % 2 = 0
    · have hq : decide (x.undos % 2 = 0) = true := decide_eq_true hu
      have HE : Hid (levTo item l (k + 1) = max (levTo item l k) x.level) := by show _ = _; rw [HU.out, if_pos ⟨HD.out, hu⟩]
      rw [hq]
      clear hu hq HU
      go_wp2
      go_roundw
      case rel => exact ⟨k + 1, by omega, by go_num, by rw [HE.out], HB2⟩
      case measure => simp [intOf]; omega
    · have hq : decide (x.undos % 2 = 0) = false := decide_eq_false hu
      have HE : Hid (levTo item l (k + 1) = levTo item l k) := by show _ = _; rw [HU.out, if_neg (fun h => hu h.2)]
      rw [hq]
      clear hu hq HU
      go_wp2
      go_roundw
      case rel => exact ⟨k + 1, by omega, by go_num, by rw [HE.out], HB2⟩
      case measure => simp [intOf]; omega

set_option maxRecDepth 100000 in
set_option maxHeartbeats 2000000 in
theorem implLevel (w : World) (B : Nat) (av ao : Option Addr) (nv cv no co : Nat) (xs : List Int) (l : List OpV) (item : ByteArray) (hx : Ints w B av nv xs) (h : Ops w B ao no l) (hB : B ≤ w.heap.size) (hv : nv ≤ 1048576) (hc : no ≤ co) (hc2 : co ≤ 1048576) : Calls Try.prog 16 #[.agg #[.slice av nv cv, .slice ao no co], .string item] w fun e w' => e = .returned (.int .i64 (levelN xs l item)) ∧ Below w.heap.size w w' := by
  have hb0 : Below w.heap.size w (w.alloc (.cells #[.slice av nv cv, .slice ao no co] 37)) := (Below.refl _ w).alloc (Nat.le_refl _) _
  have HV := Lib.hid (hx.below hb0 hB)
  have HO := Lib.hid (h.below hb0 hB)
  have HB := Lib.hid hb0
  have HX := Lib.hid (boxAt (Below.refl _ (w.alloc (.cells #[.slice av nv cv, .slice ao no co] 37))))
  have hsz : w.heap.size < (w.alloc (.cells #[.slice av nv cv, .slice ao no co] 37)).heap.size := by show _ < (w.heap.push _).size; simp
  clear hx h hb0
  obtain ⟨c0, c1⟩ := pair_cells HX.out
  have HE := Lib.hid (state_level xs l item)
  go_enter Try.func16, Try.ntmps16
  go_wp2_with fail
  generalize w.alloc (.cells #[.slice av nv cv, .slice ao no co] 37) = w0 at HV HO HB HX hsz c0 c1 ⊢
  refine (stateOfW w0 B av ao nv cv no co xs l item HV.out HO.out (by omega) hv hc hc2).mono ?_
  rintro e w1 ⟨rfl, hb⟩
  have HX1 := Lib.hid ((hb.block _ (Array.getElem?_eq_some_iff.1 HX.out).1).trans HX.out)
  have HV1 := Lib.hid (HV.out.below hb (by omega))
  have HO1 := Lib.hid (HO.out.below hb (by omega))
  have HB1 := Lib.hid (HB.out.trans (hb.mono HB.out.size))
  have hs1 := hb.size
  clear hb c0 c1 HX HV HO HB
  obtain ⟨c0, c1⟩ := pair_cells HX1.out
  generalize stateV item (counted xs l) = s at HE ⊢
  have hfl := Try.fieldLevel s
  go_wp2
  go_ret
  exact ⟨by rw [← HE.out]; rfl, HB1.out⟩
set_option maxRecDepth 100000 in
set_option maxHeartbeats 2000000 in
theorem specLevel (w : World) (B : Nat) (av ao : Option Addr) (nv cv no co : Nat) (xs : List Int) (l : List OpV) (item : ByteArray) (hx : Ints w B av nv xs) (h : Ops w B ao no l) (hB : B ≤ w.heap.size) (hv : nv ≤ 1048576) (hn : no ≤ 1048576) (hm : ∀ i, i < no → (atOp l i).item.size ≤ 1048576) : Calls Try.prog 14 #[.agg #[.slice av nv cv, .slice ao no co], .string item] w fun e w' => e = .returned (.int .i64 (levelN xs l item)) ∧ Below w.heap.size w w' := by
  have hb0 : Below w.heap.size w (w.alloc (.cells #[.slice av nv cv, .slice ao no co] 37)) := (Below.refl _ w).alloc (Nat.le_refl _) _
  have HV := Lib.hid (hx.below hb0 hB)
  have HO := Lib.hid (h.below hb0 hB)
  have HB := Lib.hid hb0
  have HX := Lib.hid (boxAt (Below.refl _ (w.alloc (.cells #[.slice av nv cv, .slice ao no co] 37))))
  have hsz : w.heap.size < (w.alloc (.cells #[.slice av nv cv, .slice ao no co] 37)).heap.size := by show _ < (w.heap.push _).size; simp
  clear hx h hb0
  obtain ⟨c0, c1⟩ := pair_cells HX.out
  rcases hcb : cartB xs l with _ | _
  · have HE : Hid (levelN xs l item = 0) := by show _ = _; unfold levelN; rw [hcb]; rfl
    have HC := Lib.hid hcb
    clear hcb
    go_enter Try.func14, Try.ntmps14
    go_wp2_with fail
    generalize w.alloc (.cells #[.slice av nv cv, .slice ao no co] 37) = w0 at HV HO HB HX hsz c0 c1 ⊢
    refine (specCartOk w0 B av ao nv cv no co xs l HV.out HO.out (by omega) hv hn hm).mono ?_
    rintro e w1 ⟨rfl, hb⟩
    rw [HC.out]
    have HX1 := Lib.hid ((hb.block _ (Array.getElem?_eq_some_iff.1 HX.out).1).trans HX.out)
    have HV1 := Lib.hid (HV.out.below hb (by omega))
    have HO1 := Lib.hid (HO.out.below hb (by omega))
    have HB1 := Lib.hid (HB.out.trans (hb.mono HB.out.size))
    have hs1 := hb.size
    clear hb c0 c1 HX HV HO HB
    obtain ⟨c0, c1⟩ := pair_cells HX1.out
    go_wp2
    go_ret
    exact ⟨by rw [HE.out]; rfl, HB1.out⟩
  have HE : Hid (levelN xs l item = levTo item l l.length) := by show _ = _; unfold levelN; rw [if_pos hcb]
  have HC := Lib.hid hcb
  clear hcb
  go_enter Try.func14, Try.ntmps14
  go_wp2_with fail
  generalize w.alloc (.cells #[.slice av nv cv, .slice ao no co] 37) = w0 at HV HO HB HX hsz c0 c1 ⊢
  refine (specCartOk w0 B av ao nv cv no co xs l HV.out HO.out (by omega) hv hn hm).mono ?_
  rintro e w1 ⟨rfl, hb⟩
  rw [HC.out]
  have HX1 := Lib.hid ((hb.block _ (Array.getElem?_eq_some_iff.1 HX.out).1).trans HX.out)
  have HV1 := Lib.hid (HV.out.below hb (by omega))
  have HO1 := Lib.hid (HO.out.below hb (by omega))
  have HB1 := Lib.hid (HB.out.trans (hb.mono HB.out.size))
  have hs1 := hb.size
  clear hb c0 c1 HX HV HO HB
  obtain ⟨c0, c1⟩ := pair_cells HX1.out
  go_wp2_with fail
  refine (l5Level w1 B av ao nv cv no co xs l item HO1.out (by omega) hn HC.out).mono ?_
  rintro e w2 ⟨rfl, hb⟩
  have HX2 := Lib.hid ((hb.block _ (Array.getElem?_eq_some_iff.1 HX1.out).1).trans HX1.out)
  have HV2 := Lib.hid (HV1.out.below hb (by omega))
  have HO2 := Lib.hid (HO1.out.below hb (by omega))
  have HB2 := Lib.hid (HB1.out.trans (hb.mono HB1.out.size))
  have hs2 := hb.size
  clear hb c0 c1 HX1 HV1 HO1 HB1
  obtain ⟨c0, c1⟩ := pair_cells HX2.out
  go_wp2
  go_ret
  exact ⟨by rw [HE.out]; rfl, HB2.out⟩
end Go.Proofs.Ytideaompdbdbhaa
