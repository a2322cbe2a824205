/- Tables of rows: the walks of spec.Heard and impl.Heard. -/
import Derived.Test.YtmceofdknphgkaaAckK
namespace Go.Proofs.Ytmceofdknphgkaa
open Go.RowKit
set_option linter.unusedVariables false
set_option linter.unusedSimpArgs false

theorem deviceA (dev : Int) (w : World) : Calls Try.prog 118 #[.int .i64 dev] w fun e w' => e = .returned (.bool (inB dev 0 3)) ∧ w = w' := by
  go_enter Try.func118, Try.ntmps118
  go_wp2_with fail
  refine (inRange _ _ _ _).mono ?_
  rintro e w1 ⟨rfl, rfl⟩
  go_wp2
  go_ret
  exact ⟨rfl, rfl⟩
def heardB (l : List (List Int)) (dev : Int) (ys : List Int) : Bool := ackOk l && (inB dev 0 3 && vecOk ys)
theorem heard_ack {l : List (List Int)} {dev : Int} {ys : List Int} (h : ackOk l = false) : heardB l dev ys = false := by unfold heardB; rw [h]; rfl
theorem heard_dev {l : List (List Int)} {dev : Int} {ys : List Int} (h : inB dev 0 3 = false) : heardB l dev ys = false := by unfold heardB; rw [h]; simp
theorem heard_vec {l : List (List Int)} {dev : Int} {ys : List Int} (h : vecOk ys = false) : heardB l dev ys = false := by unfold heardB; rw [h]; simp
theorem heard_yes {l : List (List Int)} {dev : Int} {ys : List Int} (h : ackOk l = true) (h2 : inB dev 0 3 = true) (h3 : vecOk ys = true) : heardB l dev ys = true := by unfold heardB; rw [h, h2, h3]; rfl
def heardRows (l : List (List Int)) (d : Nat) (ys : List Int) : List (List Int) := l.set d (zipI max (rowOf l d) ys)
theorem heard_len (l : List (List Int)) (d : Nat) (ys : List Int) : (heardRows l d ys).length = l.length := by unfold heardRows; rw [List.length_set]
theorem heard_at {l : List (List Int)} {d i : Nat} (ys : List Int) (hd : d < l.length) : rowOf (heardRows l d ys) i = if i = d then zipI max (rowOf l d) ys else rowOf l i := by
  by_cases e : i = d
  · subst e
    rw [if_pos rfl]
    show (heardRows l i ys).getD i [] = _
    unfold heardRows
    rw [List.getD_eq_getElem?_getD, List.getElem?_set_self (by exact hd)]
    rfl
  · rw [if_neg e]
    show (heardRows l d ys).getD i [] = l.getD i []
    unfold heardRows
    rw [List.getD_eq_getElem?_getD, List.getD_eq_getElem?_getD, List.getElem?_set_ne (fun h => e h.symm)]
theorem heard_ok {l : List (List Int)} {d : Nat} {ys : List Int} (h : ackOk l = true) (hd : d < 4) (hy : vecOk ys = true) {i : Nat} (hi : i < 4) : vecOk (rowOf (heardRows l d ys) i) = true := by
  rw [heard_at ys (by rw [(ack_row h hd).2]; exact hd)]
  by_cases e : i = d
  · rw [if_pos e]; exact vec_max (ack_row h hd).1 hy
  · rw [if_neg e]; exact (ack_row h hi).1
theorem dev_nat {dev : Int} (h : inB dev 0 3 = true) : ∃ d : Nat, d < 4 ∧ dev = (d : Int) := by
  unfold inB at h
  simp at h
  exact ⟨dev.toNat, by omega, by omega⟩
/-- What Heard answers. -/
def HeardPost (l : List (List Int)) (dev : Int) (ys : List Int) (w : World) (e : Ending) (w' : World) : Prop :=
  ((heardB l dev ys = true ∧ ∃ (d g c : Nat) (f : Nat → Nat), d < 4 ∧ dev = (d : Int) ∧ e = .returned (.tuple #[.agg #[.slice (some ⟨g, 0, none⟩) 4 c], .bool true]) ∧ RowsAt w' w.heap.size w'.heap.size g 4 f (rowOf (heardRows l d ys))) ∨
    (heardB l dev ys = false ∧ e = .returned (.tuple #[.agg #[.slice none 0 0], .bool false]))) ∧ Below w.heap.size w w'

set_option maxRecDepth 100000 in
set_option maxHeartbeats 4000000 in
theorem specHeard (w : World) (B : Nat) (a av : Option Addr) (n cap nv cv : Nat) (dev : Int) (l : List (List Int)) (ys : List Int) (h : IRows w B a n l) (hy : Ints w B av nv ys) (hB : B ≤ w.heap.size) (hn : n ≤ 1048576) (hnv : nv ≤ 1048576) (hr : ∀ i, i < n → (rowOf l i).length ≤ 1048576) :
    Calls Try.prog 64 #[.agg #[.slice a n cap], .int .i64 dev, .slice av nv cv] w (HeardPost l dev ys w) := by
  obtain ⟨hB0, h1, h2, hz0⟩ := alloc2 w (.cells #[.slice a n cap] 66) (.cells #[.slice none 0 0] 66)
  have HA := Lib.hid h1
  have HRs := Lib.hid h2
  have HB := Lib.hid hB0
  have H := Lib.hid (h.below hB0 hB)
  have HY := Lib.hid (hy.below hB0 hB)
  have HL := Lib.hid h.1
  have HR := Lib.hid hr
  clear h hy hr hB0 h1 h2
  go_enter Try.func64, Try.ntmps64
  go_wp2_with fail
  generalize (w.alloc (.cells #[.slice a n cap] 66)).alloc (.cells #[.slice none 0 0] 66) = w0 at HA HRs HB H HY hz0 ⊢
  refine (specAcksOk w0 B a n cap l H.out (by omega) hn HR.out).mono ?_
  rintro e w1 ⟨rfl, hb1⟩
  have HA1 := Lib.hid ((hb1.block _ (by omega)).trans HA.out)
  have HR1 := Lib.hid ((hb1.block _ (by omega)).trans HRs.out)
  have HB1 := Lib.hid (HB.out.trans (hb1.mono HB.out.size))
  have H1 := Lib.hid (H.out.below hb1 (by omega))
  have HY1 := Lib.hid (HY.out.below hb1 (by omega))
  have hs1 := hb1.size
  clear hb1 HA HRs HB H HY
  rcases hok : ackOk l with _ | _
  · have HF := Lib.hid (heard_ack (dev := dev) (ys := ys) hok)
    clear hok
    have rF := HR1.out
    have r0 := one_cell rF
    have q0 : w1.frozen? ⟨w.heap.size + 1, 0, none⟩ = false := frozen_of_row _ _ _ _ _ rF
    have HD := Lib.hid (cell_set1 (.slice none 0 0) rF)
    have HBf := Lib.hid (HB1.out.setCell (p := ⟨w.heap.size + 1, 0, none⟩) (by show w.heap.size ≤ w.heap.size + 1; omega) (.slice none 0 0))
    clear rF
    go_wp2
    have d0 := HD.out
    generalize w1.setCell ⟨w.heap.size + 1, 0, none⟩ (.slice none 0 0) = wf at d0 HBf ⊢
    exact bodyPost_ret (v := .tuple #[.agg #[.slice none 0 0], .bool false]) (by simp [results, Try.results64, go_sem, d0]) rfl ⟨.inr ⟨HF.out, rfl⟩, HBf.out⟩
  have HK := Lib.hid hok
  clear hok
  go_wp2_with fail
  refine (l3Dev dev w1).mono ?_
  rintro e w2 ⟨rfl, rfl⟩
  rcases hdv : inB dev 0 3 with _ | _
  · have HF := Lib.hid (heard_dev (l := l) (ys := ys) hdv)
    clear hdv
    have rF := HR1.out
    have r0 := one_cell rF
    have q0 : w1.frozen? ⟨w.heap.size + 1, 0, none⟩ = false := frozen_of_row _ _ _ _ _ rF
    have HD := Lib.hid (cell_set1 (.slice none 0 0) rF)
    have HBf := Lib.hid (HB1.out.setCell (p := ⟨w.heap.size + 1, 0, none⟩) (by show w.heap.size ≤ w.heap.size + 1; omega) (.slice none 0 0))
    clear rF
    go_wp2
    have d0 := HD.out
    generalize w1.setCell ⟨w.heap.size + 1, 0, none⟩ (.slice none 0 0) = wf at d0 HBf ⊢
    exact bodyPost_ret (v := .tuple #[.agg #[.slice none 0 0], .bool false]) (by simp [results, Try.results64, go_sem, d0]) rfl ⟨.inr ⟨HF.out, rfl⟩, HBf.out⟩
  obtain ⟨d, hd4, hdd⟩ := dev_nat hdv
  have HDv := Lib.hid hdv
  clear hdv
  go_wp2_with fail
  refine (specVecOk w1 B av nv cv ys HY1.out hnv).mono ?_
  rintro e w2 ⟨rfl, rfl⟩
  rcases hvk : vecOk ys with _ | _
  · have HF := Lib.hid (heard_vec (l := l) (dev := dev) hvk)
    clear hvk
    have rF := HR1.out
    have r0 := one_cell rF
    have q0 : w1.frozen? ⟨w.heap.size + 1, 0, none⟩ = false := frozen_of_row _ _ _ _ _ rF
    have HD := Lib.hid (cell_set1 (.slice none 0 0) rF)
    have HBf := Lib.hid (HB1.out.setCell (p := ⟨w.heap.size + 1, 0, none⟩) (by show w.heap.size ≤ w.heap.size + 1; omega) (.slice none 0 0))
    clear rF
    go_wp2
    have d0 := HD.out
    generalize w1.setCell ⟨w.heap.size + 1, 0, none⟩ (.slice none 0 0) = wf at d0 HBf ⊢
    exact bodyPost_ret (v := .tuple #[.agg #[.slice none 0 0], .bool false]) (by simp [results, Try.results64, go_sem, d0]) rfl ⟨.inr ⟨HF.out, rfl⟩, HBf.out⟩
  have HYk := Lib.hid hvk
  have HHB := Lib.hid (heard_yes HK.out HDv.out hvk)
  clear hvk
  subst hdd
  obtain rfl : n = 4 := by have := (ack_row HK.out (i := 0) (by omega)).2; have := HL.out; omega
  have hba : Below w1.heap.size w1 (w1.alloc (.cells #[.slice none 0 0] 66)) := (Below.refl _ _).alloc (Nat.le_refl _) _
  have HN2 := Lib.hid (heap_alloc_new w1 (.cells #[.slice none 0 0] 66))
  have hz2 : (w1.alloc (.cells #[.slice none 0 0] 66)).heap.size = w1.heap.size + 1 := by show (w1.heap.push _).size = _; simp
  have HBa := Lib.hid hba
  clear hba
  go_wp2
  generalize w1.alloc (.cells #[.slice none 0 0] 66) = w2 at HN2 hz2 HBa ⊢
  go_loopw [9] (fun i wr => ∃ (k : Nat) (v : Value) (f : Nat → Nat), k ≤ 4 ∧ i = .int .i64 (k : Int) ∧ Hid (AInv w1 wr w1.heap.size (w1.heap.size + 1) k v f (rowOf (heardRows l d ys)))) (fun i _ => 4 - (intOf i).toNat)
  case atStart => exact ⟨0, _, _, by omega, rfl, AInv.first _ _ _ _ _ HN2.out HBa.out (Nat.le_refl _) (by omega) (by omega)⟩
  case round =>
    obtain ⟨k, v, f, hk, rfl, HI⟩ := hrel
    have hbs := HI.out.bel.size
    have y0 := one_cell ((HI.out.bel.block _ (by omega)).trans HA1.out)
    by_cases hlt : k < 4
    · have hki : (k : Int) < 4 := by omega
      obtain ⟨b, off, ai, ci, rfl, hb, hc, hx⟩ := (H1.out.below HI.out.bel (by omega)).2 k hlt
      have hrow := ack_row HK.out hlt
      rw [vec_len hrow.1] at hc hx
      obtain ⟨va, vc, z1, hrun, ho, hb1⟩ := copy4 wr B ai ci _ hx (by omega)
      have HO := Lib.hid ho
      have hcA : (wr.alloc (.cells #[] 2)).cell? ⟨b, off + k, none⟩ = some (.slice ai 4 ci) := (World.cell?_alloc_lt wr _ _ (by show b < wr.heap.size; omega)).trans hc
      have yA : (wr.alloc (.cells #[] 2)).cell? ⟨w.heap.size, 0, none⟩ = some (.slice (some ⟨b, off, none⟩) 4 cap) := (World.cell?_alloc_lt wr _ _ (by show w.heap.size < wr.heap.size; omega)).trans y0
      have hI1 := HI.out.next hb1
      have HI1 := Lib.hid hI1
      have HYz := Lib.hid (HY1.out.below hI1.bel (by omega))
      have HSt := Lib.hid (fun i hi => (HI.out.stock i hi).2)
      have hs1z := hb1.size
      have HRow := Lib.hid hrow.1
      have hhi := HI.out.hi
      clear ho hx hb1 hI1 hrow HI
      by_cases hdk : (k : Int) = (d : Int)
      · obtain rfl : k = d := by omega
        have hz : vecZip max (rowOf l k) ys = rowOf (heardRows l k ys) k := by
          rw [vecZip_yes (by rw [HRow.out, HYk.out]; rfl), heard_at ys (by rw [(ack_row HK.out hlt).2]; exact hlt), if_pos rfl]
        have hsp := specMax z1 z1.heap.size B va av 4 vc nv cv (rowOf l k) ys HO.out.ints HYz.out (Nat.le_refl _) (by omega) (by omega) hnv
        rw [hz] at hsp
        have HSp := Lib.hid hsp
        have HLz := Lib.hid (vec_len (heard_ok HK.out hlt HYk.out hlt))
        clear hsp hz
        go_wp2_with (at_builtin; refine wpListR rfl _ _ _ rfl _ _ rfl rfl hrun ?_)
        clear hcA hc y0 yA hrun
        refine HSp.out.mono ?_
        rintro e z2 ⟨xa, xc, rfl, ho2, hb2⟩
        rw [HLz.out] at ho2 ⊢
        have HO2 := Lib.hid ho2
        have HI2 := Lib.hid (HI1.out.next hb2)
        clear ho2 hb2
        obtain ⟨f', ua, uc, z3, hrun2, n1, nA, n3, f3, hI4, _⟩ := HI2.out.push (c := xc) HO2.out (by omega) (fun i hi => by have := HSt.out i hi; omega) (by omega)
        have HI4 := Lib.hid hI4
        clear hI4
        go_wp2_with (at_builtin; refine wpListR rfl _ _ _ rfl _ _ rfl rfl hrun2 ?_)
        try go_wp2
        clear n1 nA n3 f3 hrun2
        generalize z3.setCell ⟨w1.heap.size, 0, none⟩ (.slice ua (k + 1) uc) = z4 at HI4 ⊢
        go_roundw
        case rel => exact ⟨k + 1, _, f', by omega, by go_num, HI4⟩
        case measure => simp [intOf]; omega
      · have hz : rowOf (heardRows l d ys) k = rowOf l k := by
          rw [heard_at ys (by rw [(ack_row HK.out hd4).2]; exact hd4), if_neg (by omega)]
        have HO2 : Hid (Own z1 wr.heap.size z1.heap.size va 4 (rowOf (heardRows l d ys) k)) := by
          show Own _ _ _ _ _ _
          rw [hz]
          exact HO.out
        clear hz
        obtain ⟨f', ua, uc, z3, hrun2, n1, nA, n3, f3, hI4, _⟩ := HI1.out.push (c := vc) HO2.out (by omega) (fun i hi => HSt.out i hi) (by omega)
        have HI4 := Lib.hid hI4
        clear hI4
        go_wp2_with (at_builtin; first | refine wpListR rfl _ _ _ rfl _ _ rfl rfl hrun ?_ | refine wpListR rfl _ _ _ rfl _ _ rfl rfl hrun2 ?_)
        try go_wp2
        clear n1 nA n3 f3 hrun2
        generalize z3.setCell ⟨w1.heap.size, 0, none⟩ (.slice ua (k + 1) uc) = z4 at HI4 ⊢
        go_roundw
        case rel => exact ⟨k + 1, _, f', by omega, by go_num, HI4⟩
        case measure => simp [intOf]; omega
    · obtain rfl : k = 4 := by omega
      obtain ⟨g, c, rfl, hrows⟩ := HI.out.rows (by omega) (fun i hi => vec_len (heard_ok HK.out hd4 HYk.out hi))
      have HNt := Lib.hid hrows
      have n0 := one_cell HI.out.box
      have hR := (HI.out.bel.block (w.heap.size + 1) (by omega)).trans HR1.out
      have r0 := one_cell hR
      have q0 : wr.frozen? ⟨w.heap.size + 1, 0, none⟩ = false := frozen_of_row _ _ _ _ _ hR
      have HD := Lib.hid (cell_set1 (.slice (some ⟨g, 0, none⟩) 4 c) hR)
      have HN4 : Hid (RowsAt (wr.setCell ⟨w.heap.size + 1, 0, none⟩ (.slice (some ⟨g, 0, none⟩) 4 c)) w.heap.size (wr.setCell ⟨w.heap.size + 1, 0, none⟩ (.slice (some ⟨g, 0, none⟩) 4 c)).heap.size g 4 f (rowOf (heardRows l d ys))) := by
        rw [show (wr.setCell ⟨w.heap.size + 1, 0, none⟩ (.slice (some ⟨g, 0, none⟩) 4 c)).heap.size = wr.heap.size by simp [World.setCell]]
        exact (HNt.out.kept fun j h1 h2 => heap_setCell_other _ _ _ _ (by show j ≠ w.heap.size + 1; omega)).more (by omega) (Nat.le_refl _)
      have HB4 : Hid (Below w.heap.size w (wr.setCell ⟨w.heap.size + 1, 0, none⟩ (.slice (some ⟨g, 0, none⟩) 4 c))) := (HB1.out.trans (HI.out.bel.mono HB1.out.size)).setCell (by show _ ≤ w.heap.size + 1; omega) _
      clear hR hrows
      go_wp2
      have d0 := HD.out
      generalize wr.setCell ⟨w.heap.size + 1, 0, none⟩ (.slice (some ⟨g, 0, none⟩) 4 c) = wf at d0 HN4 HB4 ⊢
      exact bodyPost_ret (v := .tuple #[.agg #[.slice (some ⟨g, 0, none⟩) 4 c], .bool true]) (by simp [results, Try.results64, go_sem, d0]) rfl ⟨.inl ⟨HHB.out, d, g, c, f, hd4, rfl, rfl, HN4.out⟩, HB4.out⟩
set_option maxRecDepth 100000 in
set_option maxHeartbeats 4000000 in
theorem implHeard (w : World) (B : Nat) (a av : Option Addr) (n cap nv cv : Nat) (dev : Int) (l : List (List Int)) (ys : List Int) (h : IRows w B a n l) (hy : Ints w B av nv ys) (hB : B ≤ w.heap.size) (hn : n ≤ 1048576) (hnv : nv ≤ 1048576) (hr : ∀ i, i < n → (rowOf l i).length ≤ 1048576) :
    Calls Try.prog 63 #[.agg #[.slice a n cap], .int .i64 dev, .slice av nv cv] w (HeardPost l dev ys w) := by
  obtain ⟨hB0, h1, h2, hz0⟩ := alloc2 w (.cells #[.slice a n cap] 66) (.cells #[.slice none 0 0] 66)
  have HRs := Lib.hid h2
  have HB := Lib.hid hB0
  have H := Lib.hid (h.below hB0 hB)
  have HY := Lib.hid (hy.below hB0 hB)
  have HR := Lib.hid hr
  clear h hy hr hB0 h1 h2
  go_enter Try.func63, Try.ntmps63
  go_wp2_with fail
  generalize (w.alloc (.cells #[.slice a n cap] 66)).alloc (.cells #[.slice none 0 0] 66) = w0 at HRs HB H HY hz0 ⊢
  refine (ackRowsOf w0 B a n cap l H.out (by omega) HR.out).mono ?_
  rintro e w1 ⟨hcase, hb1⟩
  have HR1 := Lib.hid ((hb1.block _ (by omega)).trans HRs.out)
  have HB1 := Lib.hid (HB.out.trans (hb1.mono HB.out.size))
  have HY1 := Lib.hid (HY.out.below hb1 (by omega))
  have hs1 := hb1.size
  clear hb1 HRs HB H HY
  rcases hcase with ⟨hok, f, rfl, hvec, hinc⟩ | ⟨hok, rfl⟩
  rotate_left
  · have HF := Lib.hid (heard_ack (dev := dev) (ys := ys) hok)
    clear hok
    have hba : Below w1.heap.size w1 (w1.alloc (.cells #[.pointer none, .pointer none, .pointer none, .pointer none] 136)) := (Below.refl _ _).alloc (Nat.le_refl _) _
    have HNw2 := Lib.hid (heap_alloc_new w1 (.cells #[.pointer none, .pointer none, .pointer none, .pointer none] 136))
    have hzw2 : (w1.alloc (.cells #[.pointer none, .pointer none, .pointer none, .pointer none] 136)).heap.size = w1.heap.size + 1 := by show (w1.heap.push _).size = _; simp
    have HR2 := Lib.hid ((hba.block _ (by omega)).trans HR1.out)
    have HB2 := Lib.hid (HB1.out.trans (hba.mono HB1.out.size))
    have HY2 := Lib.hid (HY1.out.below hba (by omega))
    clear hba
    go_upto_region 2 with fail
    generalize w1.alloc (.cells #[.pointer none, .pointer none, .pointer none, .pointer none] 136) = w2 at HNw2 hzw2 HR2 HB2 HY2 ⊢
    rcases hvk : vecOk ys with _ | _
    · go_wp2_with fail
      refine (vectorOfNo w2 B av nv cv ys HY2.out (by omega) hnv hvk).mono ?_
      rintro e w3 ⟨rfl, hb3⟩
      have HR3 := Lib.hid ((hb3.block _ (by omega)).trans HR2.out)
      have HB3 := Lib.hid (HB2.out.trans (hb3.mono HB2.out.size))
      have hs3 := hb3.size
      clear hb3 hvk
      have hba : Below w3.heap.size w3 (w3.alloc (.cells #[.int .i64 0, .int .i64 0, .int .i64 0, .int .i64 0] 142)) := (Below.refl _ _).alloc (Nat.le_refl _) _
      have HNw4 := Lib.hid (heap_alloc_new w3 (.cells #[.int .i64 0, .int .i64 0, .int .i64 0, .int .i64 0] 142))
      have hzw4 : (w3.alloc (.cells #[.int .i64 0, .int .i64 0, .int .i64 0, .int .i64 0] 142)).heap.size = w3.heap.size + 1 := by show (w3.heap.push _).size = _; simp
      have HR4 := Lib.hid ((hba.block _ (by omega)).trans HR3.out)
      have HB4 := Lib.hid (HB3.out.trans (hba.mono HB3.out.size))
      clear hba
      go_upto_region 3 with fail
      generalize w3.alloc (.cells #[.int .i64 0, .int .i64 0, .int .i64 0, .int .i64 0] 142) = w4 at HNw4 hzw4 HR4 HB4 ⊢
      have rF := HR4.out
      have r0 := one_cell rF
      have q0 : w4.frozen? ⟨w.heap.size + 1, 0, none⟩ = false := frozen_of_row _ _ _ _ _ rF
      have HD := Lib.hid (cell_set1 (.slice none 0 0) rF)
      have HBf := Lib.hid (HB4.out.setCell (p := ⟨w.heap.size + 1, 0, none⟩) (by show w.heap.size ≤ w.heap.size + 1; omega) (.slice none 0 0))
      clear rF
      go_wp2
      have d0 := HD.out
      generalize w4.setCell ⟨w.heap.size + 1, 0, none⟩ (.slice none 0 0) = wf at d0 HBf ⊢
      exact bodyPost_ret (v := .tuple #[.agg #[.slice none 0 0], .bool false]) (by simp [results, Try.results63, go_sem, d0]) rfl ⟨.inr ⟨HF.out, rfl⟩, HBf.out⟩
    · obtain ⟨y0, y1, y2, y3, hyy⟩ := four hvk
      obtain rfl : nv = 4 := by have := vec_len hvk; have := HY2.out.1; omega
      have hY4 := HY2.out
      rw [hyy] at hY4 hvk
      go_wp2_with fail
      refine (vectorOfYes w2 B av cv y0 y1 y2 y3 hY4 (by omega) hvk).mono ?_
      rintro e w3 ⟨rfl, hb3⟩
      have HR3 := Lib.hid ((hb3.block _ (by omega)).trans HR2.out)
      have HB3 := Lib.hid (HB2.out.trans (hb3.mono HB2.out.size))
      have hs3 := hb3.size
      clear hb3 hvk hY4 hyy
      have hba : Below w3.heap.size w3 (w3.alloc (.cells #[.int .i64 y0, .int .i64 y1, .int .i64 y2, .int .i64 y3] 142)) := (Below.refl _ _).alloc (Nat.le_refl _) _
      have HNw4 := Lib.hid (heap_alloc_new w3 (.cells #[.int .i64 y0, .int .i64 y1, .int .i64 y2, .int .i64 y3] 142))
      have hzw4 : (w3.alloc (.cells #[.int .i64 y0, .int .i64 y1, .int .i64 y2, .int .i64 y3] 142)).heap.size = w3.heap.size + 1 := by show (w3.heap.push _).size = _; simp
      have HR4 := Lib.hid ((hba.block _ (by omega)).trans HR3.out)
      have HB4 := Lib.hid (HB3.out.trans (hba.mono HB3.out.size))
      clear hba
      go_upto_region 3 with fail
      generalize w3.alloc (.cells #[.int .i64 y0, .int .i64 y1, .int .i64 y2, .int .i64 y3] 142) = w4 at HNw4 hzw4 HR4 HB4 ⊢
      have rF := HR4.out
      have r0 := one_cell rF
      have q0 : w4.frozen? ⟨w.heap.size + 1, 0, none⟩ = false := frozen_of_row _ _ _ _ _ rF
      have HD := Lib.hid (cell_set1 (.slice none 0 0) rF)
      have HBf := Lib.hid (HB4.out.setCell (p := ⟨w.heap.size + 1, 0, none⟩) (by show w.heap.size ≤ w.heap.size + 1; omega) (.slice none 0 0))
      clear rF
      go_wp2
      have d0 := HD.out
      generalize w4.setCell ⟨w.heap.size + 1, 0, none⟩ (.slice none 0 0) = wf at d0 HBf ⊢
      exact bodyPost_ret (v := .tuple #[.agg #[.slice none 0 0], .bool false]) (by simp [results, Try.results63, go_sem, d0]) rfl ⟨.inr ⟨HF.out, rfl⟩, HBf.out⟩
  have HK := Lib.hid hok
  have HInc := Lib.hid hinc
  clear hok hinc
  have hba : Below w1.heap.size w1 (w1.alloc (.cells #[.pointer (some ⟨f 0, 0, none⟩), .pointer (some ⟨f 1, 0, none⟩), .pointer (some ⟨f 2, 0, none⟩), .pointer (some ⟨f 3, 0, none⟩)] 136)) := (Below.refl _ _).alloc (Nat.le_refl _) _
  have HNw2 := Lib.hid (heap_alloc_new w1 (.cells #[.pointer (some ⟨f 0, 0, none⟩), .pointer (some ⟨f 1, 0, none⟩), .pointer (some ⟨f 2, 0, none⟩), .pointer (some ⟨f 3, 0, none⟩)] 136))
  have hzw2 : (w1.alloc (.cells #[.pointer (some ⟨f 0, 0, none⟩), .pointer (some ⟨f 1, 0, none⟩), .pointer (some ⟨f 2, 0, none⟩), .pointer (some ⟨f 3, 0, none⟩)] 136)).heap.size = w1.heap.size + 1 := by show (w1.heap.push _).size = _; simp
  have HR2 := Lib.hid ((hba.block _ (by omega)).trans HR1.out)
  have HB2 := Lib.hid (HB1.out.trans (hba.mono HB1.out.size))
  have HY2 := Lib.hid (HY1.out.below hba (by omega))
  have HVec2 := Lib.hid (fun i hi => (⟨(hvec i hi).1, (hvec i hi).2.1, (hba.block _ (hvec i hi).2.1).trans (hvec i hi).2.2⟩ : w0.heap.size ≤ f i ∧ f i < w1.heap.size ∧ (w1.alloc (.cells #[.pointer (some ⟨f 0, 0, none⟩), .pointer (some ⟨f 1, 0, none⟩), .pointer (some ⟨f 2, 0, none⟩), .pointer (some ⟨f 3, 0, none⟩)] 136)).heap[f i]? = some (.cells ((rowOf l i).map (Value.int .i64)).toArray 142 (0, 0))))
  clear hvec
  clear hba
  go_upto_region 2 with fail
  generalize w1.alloc (.cells #[.pointer (some ⟨f 0, 0, none⟩), .pointer (some ⟨f 1, 0, none⟩), .pointer (some ⟨f 2, 0, none⟩), .pointer (some ⟨f 3, 0, none⟩)] 136) = w2 at HVec2 HNw2 hzw2 HR2 HB2 HY2 ⊢
  rcases hvk : vecOk ys with _ | _
  · have HF := Lib.hid (heard_vec (l := l) (dev := dev) hvk)
    go_wp2_with fail
    refine (vectorOfNo w2 B av nv cv ys HY2.out (by omega) hnv hvk).mono ?_
    rintro e w3 ⟨rfl, hb3⟩
    have HR3 := Lib.hid ((hb3.block _ (by omega)).trans HR2.out)
    have HB3 := Lib.hid (HB2.out.trans (hb3.mono HB2.out.size))
    have hs3 := hb3.size
    clear hb3 hvk
    have hba : Below w3.heap.size w3 (w3.alloc (.cells #[.int .i64 0, .int .i64 0, .int .i64 0, .int .i64 0] 142)) := (Below.refl _ _).alloc (Nat.le_refl _) _
    have HNw4 := Lib.hid (heap_alloc_new w3 (.cells #[.int .i64 0, .int .i64 0, .int .i64 0, .int .i64 0] 142))
    have hzw4 : (w3.alloc (.cells #[.int .i64 0, .int .i64 0, .int .i64 0, .int .i64 0] 142)).heap.size = w3.heap.size + 1 := by show (w3.heap.push _).size = _; simp
    have HR4 := Lib.hid ((hba.block _ (by omega)).trans HR3.out)
    have HB4 := Lib.hid (HB3.out.trans (hba.mono HB3.out.size))
    clear hba
    go_upto_region 3 with fail
    generalize w3.alloc (.cells #[.int .i64 0, .int .i64 0, .int .i64 0, .int .i64 0] 142) = w4 at HNw4 hzw4 HR4 HB4 ⊢
    go_wp2_with fail
    refine (deviceA dev w4).mono ?_
    rintro e w5 ⟨rfl, rfl⟩
    rcases hdv : inB dev 0 3 with _ | _
    · clear hdv
      have rF := HR4.out
      have r0 := one_cell rF
      have q0 : w4.frozen? ⟨w.heap.size + 1, 0, none⟩ = false := frozen_of_row _ _ _ _ _ rF
      have HD := Lib.hid (cell_set1 (.slice none 0 0) rF)
      have HBf := Lib.hid (HB4.out.setCell (p := ⟨w.heap.size + 1, 0, none⟩) (by show w.heap.size ≤ w.heap.size + 1; omega) (.slice none 0 0))
      clear rF
      go_wp2
      have d0 := HD.out
      generalize w4.setCell ⟨w.heap.size + 1, 0, none⟩ (.slice none 0 0) = wf at d0 HBf ⊢
      exact bodyPost_ret (v := .tuple #[.agg #[.slice none 0 0], .bool false]) (by simp [results, Try.results63, go_sem, d0]) rfl ⟨.inr ⟨HF.out, rfl⟩, HBf.out⟩
    · clear hdv
      have rF := HR4.out
      have r0 := one_cell rF
      have q0 : w4.frozen? ⟨w.heap.size + 1, 0, none⟩ = false := frozen_of_row _ _ _ _ _ rF
      have HD := Lib.hid (cell_set1 (.slice none 0 0) rF)
      have HBf := Lib.hid (HB4.out.setCell (p := ⟨w.heap.size + 1, 0, none⟩) (by show w.heap.size ≤ w.heap.size + 1; omega) (.slice none 0 0))
      clear rF
      go_wp2
      have d0 := HD.out
      generalize w4.setCell ⟨w.heap.size + 1, 0, none⟩ (.slice none 0 0) = wf at d0 HBf ⊢
      exact bodyPost_ret (v := .tuple #[.agg #[.slice none 0 0], .bool false]) (by simp [results, Try.results63, go_sem, d0]) rfl ⟨.inr ⟨HF.out, rfl⟩, HBf.out⟩
  obtain ⟨y0, y1, y2, y3, hyy⟩ := four hvk
  have HYk := Lib.hid hvk
  obtain rfl : nv = 4 := by have := vec_len hvk; have := HY2.out.1; omega
  have hY4 := HY2.out
  rw [hyy] at hY4 hvk
  go_wp2_with fail
  refine (vectorOfYes w2 B av cv y0 y1 y2 y3 hY4 (by omega) hvk).mono ?_
  rintro e w3 ⟨rfl, hb3⟩
  have HR3 := Lib.hid ((hb3.block _ (by omega)).trans HR2.out)
  have HB3 := Lib.hid (HB2.out.trans (hb3.mono HB2.out.size))
  have HP3 := Lib.hid ((hb3.block _ (by omega)).trans HNw2.out)
  have HV3 : Hid (∀ i, i < 4 → w0.heap.size ≤ f i ∧ f i < w1.heap.size ∧ w3.heap[f i]? = some (.cells ((rowOf l i).map (Value.int .i64)).toArray 142 (0, 0))) := fun i hi => by
    obtain ⟨q1, q2, q3⟩ := HVec2.out i hi
    exact ⟨q1, q2, (hb3.block _ (by omega)).trans q3⟩
  have hs3 := hb3.size
  have HYy := Lib.hid hyy
  clear hb3 hvk hY4 hyy
  have hba : Below w3.heap.size w3 (w3.alloc (.cells #[.int .i64 y0, .int .i64 y1, .int .i64 y2, .int .i64 y3] 142)) := (Below.refl _ _).alloc (Nat.le_refl _) _
  have HNw4 := Lib.hid (heap_alloc_new w3 (.cells #[.int .i64 y0, .int .i64 y1, .int .i64 y2, .int .i64 y3] 142))
  have hzw4 : (w3.alloc (.cells #[.int .i64 y0, .int .i64 y1, .int .i64 y2, .int .i64 y3] 142)).heap.size = w3.heap.size + 1 := by show (w3.heap.push _).size = _; simp
  have HR4 := Lib.hid ((hba.block _ (by omega)).trans HR3.out)
  have HB4 := Lib.hid (HB3.out.trans (hba.mono HB3.out.size))
  have HP4 := Lib.hid ((hba.block _ (by omega)).trans HP3.out)
  have HV4 := Lib.hid (fun i hi => (⟨(HV3.out i hi).1, (HV3.out i hi).2.1, (hba.block _ (lt_of_block (HV3.out i hi).2.2)).trans (HV3.out i hi).2.2⟩ : w0.heap.size ≤ f i ∧ f i < w1.heap.size ∧ (w3.alloc (.cells #[.int .i64 y0, .int .i64 y1, .int .i64 y2, .int .i64 y3] 142)).heap[f i]? = some (.cells ((rowOf l i).map (Value.int .i64)).toArray 142 (0, 0))))
  clear hba
  go_upto_region 3 with fail
  generalize w3.alloc (.cells #[.int .i64 y0, .int .i64 y1, .int .i64 y2, .int .i64 y3] 142) = w4 at HV4 HNw4 hzw4 HR4 HB4 HP4 ⊢
  go_wp2_with fail
  refine (deviceA dev w4).mono ?_
  rintro e w5 ⟨rfl, rfl⟩
  rcases hdv : inB dev 0 3 with _ | _
  · have HF := Lib.hid (heard_dev (l := l) (ys := ys) hdv)
    clear hdv
    have rF := HR4.out
    have r0 := one_cell rF
    have q0 : w4.frozen? ⟨w.heap.size + 1, 0, none⟩ = false := frozen_of_row _ _ _ _ _ rF
    have HD := Lib.hid (cell_set1 (.slice none 0 0) rF)
    have HBf := Lib.hid (HB4.out.setCell (p := ⟨w.heap.size + 1, 0, none⟩) (by show w.heap.size ≤ w.heap.size + 1; omega) (.slice none 0 0))
    clear rF
    go_wp2
    have d0 := HD.out
    generalize w4.setCell ⟨w.heap.size + 1, 0, none⟩ (.slice none 0 0) = wf at d0 HBf ⊢
    exact bodyPost_ret (v := .tuple #[.agg #[.slice none 0 0], .bool false]) (by simp [results, Try.results63, go_sem, d0]) rfl ⟨.inr ⟨HF.out, rfl⟩, HBf.out⟩
  have HHB := Lib.hid (heard_yes HK.out hdv HYk.out)
  obtain ⟨d, hd4, rfl⟩ := dev_nat hdv
  clear hdv
  have c0 := ptr_at HP4.out hd4
  obtain ⟨qd1, qd2, qd3⟩ := HV4.out d hd4
  obtain ⟨x0, x1, x2, x3, hx⟩ := four (ack_row HK.out hd4).1
  have hgx := vec_list hx qd3
  have hmx : rowOf (heardRows l d ys) d = [max x0 y0, max x1 y1, max x2 y2, max x3 y3] := by
    rw [heard_at ys (by rw [(ack_row HK.out hd4).2]; exact hd4), if_pos rfl, hx, HYy.out]
    rfl
  have HMx := Lib.hid hmx
  have hd4i : (d : Int) < 4 := by omega
  have hd0i : (0 : Int) ≤ (d : Int) := by omega
  have HRa := Lib.hid (implRaise w4 (f d) w3.heap.size x0 x1 x2 x3 y0 y1 y2 y3 hgx HNw4.out (by omega))
  clear hx hgx hmx qd3
  go_wp2_with fail
  refine HRa.out.mono ?_
  rintro e w5 ⟨rfl, ho, hg⟩
  have HR5 := Lib.hid ((ho.block _ (by omega)).trans HR4.out)
  have HB5 := Lib.hid (HB4.out.trans (ho.below (B := w.heap.size) (by omega)))
  have hP5 := (ho.block w1.heap.size (by omega)).trans HP4.out
  have HV5 : Hid (∀ i, i < 4 → w5.heap[f i]? = some (.cells ((rowOf (heardRows l d ys) i).map (Value.int .i64)).toArray 142 (0, 0))) := fun i hi => by
    by_cases e : i = d
    · subst e
      exact vec_back HMx.out hg
    · have hne : f i ≠ f d := by
        rcases Nat.lt_or_gt_of_ne e with q | q
        · have := HInc.out i d q hd4; omega
        · have := HInc.out d i q hi; omega
      rw [heard_at ys (by rw [(ack_row HK.out hd4).2]; exact hd4), if_neg e]
      exact (ho.block (f i) (by omega)).trans (HV4.out i hi).2.2
  have hs5 := ho.size
  obtain ⟨⟨p0, p1, p2, p3⟩, _⟩ := quad hP5
  clear ho hg hP5 c0
  go_wp2_with fail
  refine (implAcks w5 (f 0) (f 1) (f 2) (f 3) (heardRows l d ys) (by rw [heard_len, (ack_row HK.out hd4).2]) (fun i hi => heard_ok HK.out hd4 HYk.out hi) (fun i hi => by rw [pk_f f hi]; exact HV5.out i hi)).mono ?_
  rintro e w6 ⟨g, c, rfl, ⟨f', hr6⟩, hb6⟩
  rw [heard_len, (ack_row HK.out hd4).2] at hr6 ⊢
  have hR := (hb6.block (w.heap.size + 1) (by omega)).trans HR5.out
  have r0 := one_cell hR
  have q0 : w6.frozen? ⟨w.heap.size + 1, 0, none⟩ = false := frozen_of_row _ _ _ _ _ hR
  have HD := Lib.hid (cell_set1 (.slice (some ⟨g, 0, none⟩) 4 c) hR)
  have HN6 : Hid (RowsAt (w6.setCell ⟨w.heap.size + 1, 0, none⟩ (.slice (some ⟨g, 0, none⟩) 4 c)) w.heap.size (w6.setCell ⟨w.heap.size + 1, 0, none⟩ (.slice (some ⟨g, 0, none⟩) 4 c)).heap.size g 4 f' (rowOf (heardRows l d ys))) := by
    rw [show (w6.setCell ⟨w.heap.size + 1, 0, none⟩ (.slice (some ⟨g, 0, none⟩) 4 c)).heap.size = w6.heap.size by simp [World.setCell]]
    exact (hr6.kept fun j h1 h2 => heap_setCell_other _ _ _ _ (by show j ≠ w.heap.size + 1; omega)).more (by omega) (Nat.le_refl _)
  have HB6 : Hid (Below w.heap.size w (w6.setCell ⟨w.heap.size + 1, 0, none⟩ (.slice (some ⟨g, 0, none⟩) 4 c))) := (HB5.out.trans (hb6.mono HB5.out.size)).setCell (by show _ ≤ w.heap.size + 1; omega) _
  clear hR hr6 hb6 p0 p1 p2 p3
  go_wp2
  have d0 := HD.out
  generalize w6.setCell ⟨w.heap.size + 1, 0, none⟩ (.slice (some ⟨g, 0, none⟩) 4 c) = wf at d0 HN6 HB6 ⊢
  exact bodyPost_ret (v := .tuple #[.agg #[.slice (some ⟨g, 0, none⟩) 4 c], .bool true]) (by simp [results, Try.results63, go_sem, d0]) rfl ⟨.inl ⟨HHB.out, d, g, c, f', hd4, rfl, rfl, HN6.out⟩, HB6.out⟩
end Go.Proofs.Ytmceofdknphgkaa
