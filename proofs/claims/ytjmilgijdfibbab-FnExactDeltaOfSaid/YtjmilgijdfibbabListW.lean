/- The walk of (impl.opSet).listed. -/
import Derived.Test.YtjmilgijdfibbabMergC
import Derived.Test.YtjmilgijdfibbabHistJ
import Derived.Laws.MakeOwn
import Derived.Deep.Cut
namespace Go.Proofs.Ytjmilgijdfibbab
open Go.RowKit

theorem row_put {w : World} {base b i n : Nat} {v u : Value} {xs : List Value} (h : w.ownsRow base 66 8 v n xs) (hb : ∀ g, v.ownBlock = some g → g ≠ b) : (w.setCell ⟨b, i, none⟩ u).ownsRow base 66 8 v n xs := by
  refine h.kept (row := some b) ⟨rfl, rfl, rfl, by simp [World.setCell], fun j _ hne => heap_setCell_other _ _ _ _ (fun e => hne (by rw [e]))⟩ ?_
  rcases hg : v.ownBlock with _ | g
  · exact .inl rfl
  · refine .inr fun e => ?_
    injection e with e
    exact hb g hg e
set_option maxRecDepth 100000 in
theorem SetIs.len {w : World} {b n : Nat} {f : Int → Int → Option OpV} (h : SetIs w b n f) : ∃ c : Nat, c ≤ n ∧ ∀ ty, (Builtin.len_ #[63] ty #[.map (some b)]).run Try.prog w = .ok (.int .i64 (c : Int)) w := by
  obtain ⟨D, h1, _⟩ := h
  exact ⟨_, h1.size_le, fun ty => h1.len Try.underlying63 ty⟩
set_option linter.unusedSimpArgs false in
set_option maxRecDepth 100000 in
set_option maxHeartbeats 8000000 in
theorem listed (w : World) (B : Nat) (av : Option Addr) (cv : Nat) (zs : List Int) (hx : Ints w B av 4 zs) (hB : B ≤ w.heap.size) (hv : vecOk zs = true) (b n : Nat) (G : Int → Int → Option OpV) (hs : SetIs w b n G) (hn : n ≤ 4194304)
    (F : Nat → Nat → OpV) (hG : ∀ d, d < 4 → ∀ s : Nat, (s : Int) < zs.getD d 0 → G (d : Int) ((s : Int) + 1) = some (F d s)) (hit : ∀ d s, (F d s).item.size ≤ 1048576) :
    Calls Try.prog 60 #[.map (some b), .slice av 4 cv] w (OpsPostC (listP zs F 4 0) w) := by
  obtain ⟨i0, hi, hz0, hz1, hz2⟩ := info_parts Try.infoOp
  obtain ⟨c, hc, hlen⟩ := hs.len
  obtain ⟨w1, hmk, hown0, hgr0⟩ := run_make_own (P := Try.prog) w w.heap.size 37 66 i0 (.agg #[.int .i64 0, .int .i64 0, .int .i64 0, .int .i64 0, .string ⟨#[]⟩, .int .i64 0, .int .i64 0, .int .i64 0]) 8 Try.underlying37 hi hz0 hz1 .i64 .i64 c (by rw [hz2]; omega) (by unfold maxLen; omega) (Nat.le_refl _)
  have HB1 : Hid (Below w.heap.size w w1) := ⟨hgr0.os, hgr0.tape, hgr0.output, hgr0.size, fun j hj => hgr0.block j hj (by simp)⟩
  have HV := Lib.hid (hx.below HB1.out hB)
  have HS := Lib.hid (hs.below HB1.out)
  have HOw := Lib.hid hown0
  have HG := Lib.hid hG
  have HIt := Lib.hid hit
  have HVk := Lib.hid (fun d (hd : d < 4) => vec_at hv hd)
  have hbw := hs.lt
  have HLen : Hid ((listP zs F 4 0).length ≤ 160) := by
    show _ ≤ _
    rw [listP_len]
    exact stOf_le hv 4 (by omega)
  clear hx hs hown0 hgr0 hG hit hc hv
  go_enter Try.func60, Try.ntmps60
  go_upto_region 2 with fail
  clear hmk hlen
  go_wp2
  go_loopw [5, 15] (fun v i wr => ∃ (d : Nat) (vv : Value), d ≤ 4 ∧ vv = v ∧ i = .int .i64 (d : Int) ∧ Hid (wr.ownsRow w.heap.size 66 8 v (listP zs F d 0).length (opCells (listP zs F d 0))) ∧ Hid (Below w.heap.size w1 wr)) (fun _ i _ => 4 - (intOf i).toNat)
  case atStart => exact ⟨0, _, by omega, rfl, rfl, HOw, Lib.hid (Below.refl _ _)⟩
  case round =>
    obtain ⟨d, vv, hd, hvv, rfl, HR, HBr⟩ := hrel
    subst hvv
    clear HOw
    have hs1 := HB1.out.size
    have hsr := HBr.out.size
    by_cases hlt : d < 4
    rotate_left
    · obtain rfl : d = 4 := by omega
      obtain ⟨L, hLe⟩ : ∃ L, listP zs F 4 0 = L := ⟨_, rfl⟩
      have HLe := Lib.hid hLe
      rw [hLe] at HR HLen
      clear hLe
      have HP : Hid (∃ a c, vv = .slice a L.length c ∧ L.length ≤ c ∧ OwnOps wr w.heap.size wr.heap.size a L.length L) := by
        have hr := HR.out
        rcases hr.2 with ⟨e, e2⟩ | ⟨g, c, cur, e, r⟩
        · subst e
          rw [e2] at hr ⊢
          exact ⟨none, 0, rfl, Nat.le_refl _, own_of_cells hr (Nat.le_refl _)⟩
        · subst e
          exact ⟨_, c, rfl, own_cap hr, own_of_cells hr (Nat.le_refl _)⟩
      obtain ⟨ra, rc, rfl, hcc, hown⟩ := HP.out
      have HOo := Lib.hid hown
      clear hown HP HR
      go_wp2
      go_ret
      rw [HLe.out]
      exact ⟨ra, rc, rfl, hcc, HOo.out, HB1.out.trans HBr.out⟩
    have HVr := Lib.hid (HV.out.below HBr.out (by omega))
    obtain ⟨vb, vo, rfl, hvb, c0⟩ := HVr.out.2 d hlt
    obtain ⟨g1, g2, _⟩ := HVk.out d hlt
    obtain ⟨q, hq⟩ := Int.eq_ofNat_of_zero_le g1
    have HNx : Hid (listP zs F (d + 1) 0 = listP zs F d q) := by show _ = _; rw [listP_next, hq]; rfl
    have HGd : Hid (∀ s : Nat, s < q → G (d : Int) ((s : Int) + 1) = some (F d s)) := fun s hs => HG.out d hlt s (by rw [hq]; omega)
    have hq40 : q ≤ 40 := by omega
    have hpl : ∀ s, s ≤ q → (listP zs F d s).length ≤ 200 := fun s hs => by
      rw [listP_len]
      have := stOf_mono zs d 4 (by omega)
      have h4 : (listP zs F 4 0).length = stOf zs 4 + 0 := listP_len zs F 4 0
      have := HLen.out
      omega
    have HPl := Lib.hid hpl
    rw [hq] at c0
    have hdi : (d : Int) < 4 := by omega
    clear hpl hq g1 g2
    go_wp2
    go_loopw [5, 8] (fun v sq wr => ∃ (s : Nat) (vv : Value), s ≤ q ∧ vv = v ∧ sq = .int .i64 ((s : Int) + 1) ∧ Hid (wr.ownsRow w.heap.size 66 8 v (listP zs F d s).length (opCells (listP zs F d s))) ∧ Hid (Below w.heap.size w1 wr)) (fun _ sq _ => q + 1 - (intOf sq).toNat)
    case atStart => exact ⟨0, _, Nat.zero_le _, rfl, rfl, HR, HBr⟩
    case round =>
      obtain ⟨s, vv, hsq, hvv, rfl, HR2, HBq⟩ := hrel
      subst hvv
      clear HR HBr c0
      have hsq2 := HBq.out.size
      by_cases hls : s < q
      rotate_left
      · obtain rfl : s = q := by omega
        have hcnd : ¬ ((s : Int) + 1 ≤ (s : Int)) := by omega
        rw [← HNx.out] at HR2
        go_wp2
        go_roundw
        case rel => exact ⟨d + 1, _, by omega, rfl, by go_num, HR2, HBq⟩
        case measure => simp [intOf]; omega
      have hcnd : (s : Int) + 1 ≤ (q : Int) := by omega
      have HSt := Lib.hid (listP_step zs F d s)
      have hlen := HPl.out s (by omega)
      have HLt : Hid (∀ g, vv.ownBlock = some g → g < wr.heap.size) := fun g hg => (HR2.out.lt g hg).2
      have HSq := Lib.hid (HS.out.kept (HBq.out.block b (by omega)))
      have hlk := (HSq.out.look (d := (d : Int)) (s := (s : Int) + 1) (fit2 (by omega) (by omega) (by omega) (by omega))).2
      rw [HGd.out s hls] at hlk
      have hitm := HIt.out d s
      generalize listP zs F d s = L at HR2 HSt hlen
      generalize F d s = x at HSt hlk hitm
      have hlk2 : (Instr.lookup 63 (.map (some b)) (.agg #[.int .i64 (d : Int), .int .i64 ((s : Int) + 1)]) false).run Try.prog wr = .ok (.agg #[.int .i64 x.dev, .int .i64 x.seq, .int .i64 x.stamp, .int .i64 x.kind, .string x.item, .int .i64 x.qty, .int .i64 x.level, .int .i64 x.undos]) wr := hlk
      clear hlk
      go_upto_region 9 with fail
      have hb3 : Below wr.heap.size wr (wr.alloc (.cells #[.int .i64 x.dev, .int .i64 x.seq, .int .i64 x.stamp, .int .i64 x.kind, .string x.item, .int .i64 x.qty, .int .i64 x.level, .int .i64 x.undos] 66)) := (Below.refl _ _).alloc (Nat.le_refl _) _
      have HX3 := Lib.hid (boxAt (Below.refl _ (wr.alloc (.cells #[.int .i64 x.dev, .int .i64 x.seq, .int .i64 x.stamp, .int .i64 x.kind, .string x.item, .int .i64 x.qty, .int .i64 x.level, .int .i64 x.undos] 66))))
      have HR3 := Lib.hid (own_row_kept HR2.out hb3)
      have HB3 := Lib.hid (HBq.out.trans (hb3.mono (by omega)))
      clear hlk2 HSq
      generalize wr.alloc (.cells #[.int .i64 x.dev, .int .i64 x.seq, .int .i64 x.stamp, .int .i64 x.kind, .string x.item, .int .i64 x.qty, .int .i64 x.level, .int .i64 x.undos] 66) = w3 at hb3 HX3 HR3 HB3 ⊢
      have hs3 := hb3.size
      have hx3 := lt_of_row HX3.out
      generalize wr.heap.size = nb at HX3 hs3 hsq2 hx3 HLt ⊢
      clear hb3 HR2 HBq
      obtain ⟨e0, e1, e2, e3, e4, e5, e6, e7⟩ := op_cells HX3.out
      go_wp2_with fail
      refine (strClone x.item hitm w3).mono ?_
      rintro e w4 ⟨rfl, hb4⟩
      have HX4 := Lib.hid ((hb4.block _ hx3).trans HX3.out)
      have HR4 := Lib.hid (own_row_kept HR3.out hb4)
      have HB4 := Lib.hid (HB3.out.trans (hb4.mono (by omega)))
      have hs4 := hb4.size
      clear hb4 HX3 HR3 HB3 e0 e1 e2 e3 e4 e5 e6 e7
      obtain ⟨e0, e1, e2, e3, e4, e5, e6, e7⟩ := op_cells HX4.out
      obtain ⟨f0, f1, f2, f3, f4, f5, f6, f7⟩ := op_frozen HX4.out
      have HX5 : Hid ((w4.setCell ⟨nb, 4, none⟩ (.string x.item)).heap[nb]? = some (.cells #[.int .i64 x.dev, .int .i64 x.seq, .int .i64 x.stamp, .int .i64 x.kind, .string x.item, .int .i64 x.qty, .int .i64 x.level, .int .i64 x.undos] 66 (0, 0))) := heap_setCell_same _ _ _ _ _ _ HX4.out
      have HB5 : Hid (Below w.heap.size w1 (w4.setCell ⟨nb, 4, none⟩ (.string x.item))) := HB4.out.setCell (by show w.heap.size ≤ nb; omega) _
      have HR5 : Hid ((w4.setCell ⟨nb, 4, none⟩ (.string x.item)).ownsRow w.heap.size 66 8 vv L.length (opCells L)) := row_put HR4.out fun g hg => by have := HLt.out g hg; omega
      go_upto_region 10 with fail
      clear e0 e1 e2 e3 e4 e5 e6 e7 f0 f1 f2 f3 f4 f5 f6 f7 HX4 HR4 HB4
      generalize w4.setCell ⟨nb, 4, none⟩ (.string x.item) = w5 at HX5 HB5 HR5 ⊢
      obtain ⟨e0, e1, e2, e3, e4, e5, e6, e7⟩ := op_cells HX5.out
      have hown1 := HR5.out.alloc (.cells #[.int .i64 x.dev, .int .i64 x.seq, .int .i64 x.stamp, .int .i64 x.kind, .string x.item, .int .i64 x.qty, .int .i64 x.level, .int .i64 x.undos] 66)
      go_wp2_with (at_builtin; refine wpList_append_own _ rfl _ _ 37 rfl w.heap.size 66 i0 (.agg #[.int .i64 0, .int .i64 0, .int .i64 0, .int .i64 0, .string ⟨#[]⟩, .int .i64 0, .int .i64 0, .int .i64 0]) 8 72 Try.underlying37 hi hz0 hz1 hz2 rfl (by decide) _ _ _ rfl hown1 ⟨w5.heap.size, 0, none⟩ 1 1 (opRow x) rfl ?c0 ?c1 ?c2 ?c3 ?c4 ?c5 ?_)
      case c0 => rfl
      case c1 => exact opRow_new w5 x
      case c2 =>
        intro u hu
        exact opCells_one [x] u (by show u ∈ opRow x ++ []; rw [List.append_nil]; exact hu)
      case c3 => unfold maxLen; omega
      case c4 => omega
      case c5 => simp; have := HB5.out.size; omega
      intro v' w6 hown2 hgrow _
      have HB6 := Lib.hid ((HB5.out.alloc (by have := HB5.out.size; omega) (.cells #[.int .i64 x.dev, .int .i64 x.seq, .int .i64 x.stamp, .int .i64 x.kind, .string x.item, .int .i64 x.qty, .int .i64 x.level, .int .i64 x.undos] 66)).grown hgrow (by simp; have := HB5.out.size; omega) (fun j hj => (hown1.lt j hj).1))
      have HR6 : Hid (w6.ownsRow w.heap.size 66 8 v' (listP zs F d (s + 1)).length (opCells (listP zs F d (s + 1)))) := by
        show World.ownsRow _ _ _ _ _ _ _
        rw [HSt.out, opCells_snoc, List.length_append]
        exact hown2
      clear hown2 hgrow hown1 HR5 HB5 HX5 e0 e1 e2 e3 e4 e5 e6 e7
      go_wp2
      go_roundw
      case rel => exact ⟨s + 1, _, by omega, rfl, by go_num, HR6, HB6⟩
      case measure => simp [intOf]; omega
end Go.Proofs.Ytjmilgijdfibbab
