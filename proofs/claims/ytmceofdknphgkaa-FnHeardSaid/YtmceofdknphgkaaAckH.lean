/- Tables of rows: what is stable, what is heard: the walks of spec.Stable and impl.Stable. -/
import Derived.Test.YtmceofdknphgkaaAckP
import Derived.Test.YtmceofdknphgkaaItemW
import Derived.Test.YtmceofdknphgkaaMaxW
import Derived.Test.YtmceofdknphgkaaMinW
namespace Go.Proofs.Ytmceofdknphgkaa
open Go.RowKit
set_option linter.unusedVariables false
set_option linter.unusedSimpArgs false

theorem zip4 (f : Int → Int → Int) (x0 x1 x2 x3 y0 y1 y2 y3 : Int) : zipI f [x0, x1, x2, x3] [y0, y1, y2, y3] = [f x0 y0, f x1 y1, f x2 y2, f x3 y3] := rfl
theorem vecOk4 (x0 x1 x2 x3 : Int) : vecOk [x0, x1, x2, x3] = true ↔ (0 ≤ x0 ∧ x0 ≤ 40) ∧ (0 ≤ x1 ∧ x1 ≤ 40) ∧ (0 ≤ x2 ∧ x2 ≤ 40) ∧ (0 ≤ x3 ∧ x3 ≤ 40) := by
  simp [vecOk, inV]
theorem vec_min {xs ys : List Int} (hx : vecOk xs = true) (hy : vecOk ys = true) : vecOk (zipI min xs ys) = true := by
  obtain ⟨x0, x1, x2, x3, rfl⟩ := four hx
  obtain ⟨y0, y1, y2, y3, rfl⟩ := four hy
  rw [vecOk4] at hx hy
  rw [zip4, vecOk4]
  omega
theorem vec_max {xs ys : List Int} (hx : vecOk xs = true) (hy : vecOk ys = true) : vecOk (zipI max xs ys) = true := by
  obtain ⟨x0, x1, x2, x3, rfl⟩ := four hx
  obtain ⟨y0, y1, y2, y3, rfl⟩ := four hy
  rw [vecOk4] at hx hy
  rw [zip4, vecOk4]
  omega
/-- The least of the first rows. -/
def minTo (l : List (List Int)) : Nat → List Int
  | 0 => rowOf l 0
  | k + 1 => zipI min (minTo l k) (rowOf l (k + 1))
theorem minTo_ok {l : List (List Int)} (h : ackOk l = true) : ∀ {k : Nat}, k < 4 → vecOk (minTo l k) = true
  | 0, _ => (ack_row h (by omega)).1
  | k + 1, hk => vec_min (minTo_ok h (by omega)) (ack_row h hk).1
def stableL (l : List (List Int)) : List Int := if ackOk l = true then minTo l 3 else []
theorem stable_yes {l : List (List Int)} (h : ackOk l = true) : stableL l = minTo l 3 := by unfold stableL; rw [if_pos h]
theorem stable_no {l : List (List Int)} (h : ackOk l = false) : stableL l = [] := by unfold stableL; rw [h]; rfl

theorem wpListR {P : Program} {w : World} {ops : Array Oper} {rest : List Oper} {o : Oper} {a : Act} {Q : Exit → Act → World → Prop} (hgd : o.guard = none) (x y : Operand) (ts : Array TypeId) (hop : o.op = Op.call { callee := Callee.builtin Builtin.append, args := #[x, y], argTypes := ts }) (v1 v2 : Value) {v' : Value} {w' : World} (h1 : a.eval x = v1) (h2 : a.eval y = v2)
    (hrun : (Builtin.append_ ts o.type #[v1, v2]).run P w = .ok v' w') (h : wpList P ops Q rest (a.put o.dst v') w') : wpList P ops Q (o :: rest) a w :=
  wpList_plain hgd fun _ hK => opwpR x y ts hop v1 v2 h1 h2 hrun (hK _ _ h)
/-- A copy of four numbers: append onto an empty slice. -/
theorem copy4 (W : World) (B : Nat) (a : Option Addr) (c : Nat) (xs : List Int) (h : Ints W B a 4 xs) (hB : B ≤ W.heap.size) :
    ∃ va vc W', (Builtin.append_ #[24, 24] 24 #[.slice (some ⟨W.heap.size, 0, none⟩) 0 0, .slice a 4 c]).run Try.prog (W.alloc (.cells #[] 2)) = .ok (.slice va 4 vc) W' ∧ Own W' W.heap.size W'.heap.size va 4 xs ∧ Below W.heap.size W W' := by
  obtain ⟨i0, hi, hz0, hz1, hz2⟩ := info_parts Try.infoI64
  have hown : (W.alloc (.cells #[] 2)).ownsRow W.heap.size 2 1 (.slice (some ⟨W.heap.size, 0, none⟩) 0 0) 0 [] := World.ownsRow_made W #[] 0 (Nat.le_refl _) (by unfold maxLen; omega) rfl
  have hL := h.1
  obtain ⟨b, off, rfl, hb, hc⟩ := h.2 0 (by omega)
  obtain ⟨v', w', hrun, hown', hgr, _⟩ := run_append_own (P := Try.prog) (W.alloc (.cells #[] 2)) W.heap.size 24 24 2 i0 (.int .i64 0) 1 8 Try.underlying24 hi hz0 hz1 hz2 rfl (by decide) _ 0 [] hown ⟨b, off, none⟩ 4 c (xs.map (Value.int .i64)) (by rw [List.length_map, hL])
    (by
      intro j u hj
      have hjl : j < xs.length := by
        rcases Nat.lt_or_ge j xs.length with h' | h'
        · exact h'
        · rw [List.getElem?_eq_none (by simpa using h')] at hj; cases hj
      obtain ⟨b', off', e, hb', hc'⟩ := h.2 j (by omega)
      cases e
      have hlt := block_lt_of_cell hc'
      rw [List.getElem?_map, List.getElem?_eq_getElem hjl] at hj
      cases hj
      rw [add_at, World.cell?_alloc_lt W _ _ hlt, hc', List.getD_eq_getElem?_getD, List.getElem?_eq_getElem hjl]
      rfl)
    (ints_oneCell _ _) (by unfold maxLen; omega) (by omega) (by show _ ≤ (W.heap.push _).size; simp)
  have hb1 := ((Below.refl W.heap.size W).alloc (Nat.le_refl _) _).grown hgr (by simp) (fun j hj => (hown.lt j hj).1)
  obtain ⟨g', cap', hv, _, _⟩ := hown'.form (by omega)
  subst hv
  exact ⟨some ⟨g', 0, none⟩, cap', w', hrun, own_of_row (hi := w'.heap.size) (by simpa using hown') (Nat.le_refl _), hb1⟩
set_option maxRecDepth 100000 in
set_option maxHeartbeats 2000000 in
theorem specStable (w : World) (B : Nat) (a : Option Addr) (n cap : Nat) (l : List (List Int)) (h : IRows w B a n l) (hB : B ≤ w.heap.size) (hn : n ≤ 1048576) (hr : ∀ i, i < n → (rowOf l i).length ≤ 1048576) :
    Calls Try.prog 60 #[.agg #[.slice a n cap]] w (OwnPost (stableL l) w) := by
  have hb0 : Below w.heap.size w (w.alloc (.cells #[.slice a n cap] 66)) := (Below.refl _ w).alloc (Nat.le_refl _) _
  have H := Lib.hid (h.below hb0 hB)
  have HB := Lib.hid hb0
  have HR := Lib.hid hr
  have HL := Lib.hid h.1
  have HX := Lib.hid (heap_alloc_new w (.cells #[.slice a n cap] 66))
  have hsz : w.heap.size < (w.alloc (.cells #[.slice a n cap] 66)).heap.size := by show _ < (w.heap.push _).size; simp
  clear h hb0 hr
  go_enter Try.func60, Try.ntmps60
  go_wp2_with fail
  generalize w.alloc (.cells #[.slice a n cap] 66) = w0 at H HB HX hsz ⊢
  refine (specAcksOk w0 B a n cap l H.out (by omega) hn HR.out).mono ?_
  rintro e w1 ⟨rfl, hb1⟩
  have HB1 := Lib.hid (HB.out.trans (hb1.mono HB.out.size))
  have HX1 := Lib.hid ((hb1.block _ hsz).trans HX.out)
  have H1 := Lib.hid (H.out.below hb1 (by omega))
  have hs1 := hb1.size
  clear hb1 HB HX H
  rcases hok : ackOk l with _ | _
  · have HS := Lib.hid (stable_no hok)
    clear hok
    have HBf := Lib.hid (HB1.out.alloc HB1.out.size (.cells #[] 2))
    go_wp2
    go_ret
    exact ⟨some ⟨w1.heap.size, 0, none⟩, 0, by rw [HS.out]; rfl, by rw [HS.out]; exact ⟨rfl, fun h => absurd h (by simp)⟩, HBf.out⟩
  have HK := Lib.hid hok
  clear hok
  obtain rfl : n = 4 := by have := (ack_row HK.out (i := 0) (by omega)).2; have := HL.out; omega
  have hl0 := vec_len (ack_row HK.out (i := 0) (by omega)).1
  obtain ⟨b, off, ai, ci, rfl, hb, hc, hx⟩ := H1.out.2 0 (by omega)
  rw [hl0] at hc hx
  rw [Nat.add_zero] at hc
  obtain ⟨va, vc, w2, hrun, ho, hb2⟩ := copy4 w1 B ai ci _ hx (by omega)
  have HO := Lib.hid ho
  have hcA : (w1.alloc (.cells #[] 2)).cell? ⟨b, off, none⟩ = some (.slice ai 4 ci) := (World.cell?_alloc_lt w1 _ _ (by show b < w1.heap.size; omega)).trans hc
  have y0 := one_cell HX1.out
  have yA : (w1.alloc (.cells #[] 2)).cell? ⟨w.heap.size, 0, none⟩ = some (.slice (some ⟨b, off, none⟩) 4 cap) := (World.cell?_alloc_lt w1 _ _ (by show w.heap.size < w1.heap.size; omega)).trans y0
  have HB2 := Lib.hid (HB1.out.trans (hb2.mono HB1.out.size))
  have HX2 := Lib.hid ((hb2.block _ (by omega)).trans HX1.out)
  have H2 := Lib.hid (H1.out.below hb2 (by omega))
  have hs2 := hb2.size
  clear ho hx hb2
  go_wp2_with (at_builtin; refine wpListR rfl _ _ _ rfl _ _ rfl rfl hrun ?_)
  clear hcA hc y0 yA hrun HB1 HX1 H1
  go_loopw [3, 4] (fun v i wr => ∃ (k : Nat) (va : Option Addr) (vc : Nat), k < 4 ∧ v = .slice va 4 vc ∧ i = .int .i64 ((k + 1 : Nat) : Int) ∧ Hid (Own wr w.heap.size wr.heap.size va 4 (minTo l k)) ∧ Hid (Below w2.heap.size w2 wr)) (fun _ i _ => 4 - (intOf i).toNat)
  case atStart => exact ⟨0, va, vc, by omega, rfl, rfl, HO.out.more (by omega) (Nat.le_refl _), Below.refl _ _⟩
  case round =>
    obtain ⟨k, xa, xc, hk, rfl, rfl, HV, HBr⟩ := hrel
    have y0 := one_cell ((HBr.out.block _ (by omega)).trans HX2.out)
    have hBs := HBr.out.size
    by_cases hlt : k + 1 < 4
    · have hki : ((k + 1 : Nat) : Int) < 4 := by omega
      obtain ⟨b', off', ai', ci', e, hb', hc', hx'⟩ := (H2.out.below HBr.out (by omega)).2 (k + 1) hlt
      injection e with e
      injection e with e1 e2
      subst e1 e2
      have hrow := ack_row HK.out (i := k + 1) hlt
      rw [vec_len hrow.1] at hc' hx'
      have hz : vecZip min (minTo l k) (rowOf l (k + 1)) = minTo l (k + 1) := vecZip_yes (by rw [minTo_ok HK.out hk, hrow.1]; rfl)
      have hlz := vec_len (minTo_ok HK.out hlt)
      have hsp := specMin wr wr.heap.size B xa ai' 4 xc 4 ci' (minTo l k) (rowOf l (k + 1)) HV.out.ints hx' (Nat.le_refl _) (by omega) (by omega) (by omega)
      rw [hz] at hsp
      have HSp := Lib.hid hsp
      have HLz := Lib.hid hlz
      clear hx' hz hsp hlz
      go_wp2_with fail
      refine HSp.out.mono ?_
      rintro e w3 ⟨za, zc, rfl, ho, hb3⟩
      rw [HLz.out] at ho ⊢
      have HV3 : Hid (Own w3 w.heap.size w3.heap.size za 4 (minTo l (k + 1))) := ho.more (by have := HB2.out.size; omega) (Nat.le_refl _)
      have HB3 := Lib.hid (HBr.out.trans (hb3.mono HBr.out.size))
      clear ho hb3 hc' y0
      go_wp2
      go_roundw
      case rel => exact ⟨k + 1, za, zc, hlt, rfl, by go_num, HV3, HB3⟩
      case measure => simp [intOf]; omega
    · obtain rfl : k = 3 := by omega
      have HS := Lib.hid (stable_yes HK.out)
      have HLz := Lib.hid (vec_len (minTo_ok HK.out hk))
      have HBf := Lib.hid (HB2.out.trans (HBr.out.mono HB2.out.size))
      go_wp2
      go_ret
      exact ⟨xa, xc, by rw [HS.out, HLz.out]; rfl, by rw [HS.out, HLz.out]; exact HV.out, HBf.out⟩
end Go.Proofs.Ytmceofdknphgkaa
