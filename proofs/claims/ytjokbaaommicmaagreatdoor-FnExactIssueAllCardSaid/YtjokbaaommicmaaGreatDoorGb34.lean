/- Walks and mathematics that several claims share, part 34. -/
import Derived.Test.YtjokbaaommicmaaGreatDoorGb33
import Derived.Great.BuildSlice
import Derived.Deep.QuietTactic
import Derived.BigQuiet
import Derived.Deep.Cut
import Derived.Test.YtjokbaaommicmaaGreatDoorGbA
namespace Go.Proofs.YtjokbaaommicmaaGreatDoor
set_option maxRecDepth 100000
open Go.RowKit

def kindIn (ks : List Int) (kind : Int) : Bool := ks.any (fun k => decide (k = kind))
def inTo (ks : List Int) (kind : Int) (j : Nat) : Bool := kindIn (ks.take j) kind
theorem inTo_step {ks : List Int} {kind : Int} {j : Nat} (h : j < ks.length) : inTo ks kind (j + 1) = (inTo ks kind j || decide (ks.getD j 0 = kind)) := by
 unfold inTo kindIn
 rw [List.take_succ_eq_append_getElem h, List.any_append, List.getD_eq_getElem?_getD, List.getElem?_eq_getElem h]
 simp
theorem inTo_all (ks : List Int) (kind : Int) : inTo ks kind ks.length = kindIn ks kind := by unfold inTo; rw [List.take_length]
theorem OpV.one (o : OpV) : o.cells.all (·.oneCell') = true := by simp [OpV.cells, Value.oneCell']
theorem Same.more {w w' : World} (h : Same w w') (n : Nat) : Same w (w'.drewN n) := by
 obtain ⟨m, rfl⟩ := h
 exact ⟨m + n, World.drewN_drewN ..⟩
theorem Tri.setRes {w w1 : World} {x y z : Array Value} {S T U : TypeId} (h : Tri w w1 x y z S T U) (cs : Array Value) : Tri w (w1.setRow (w.heap.size + 1 + 1) cs) x y cs S T U :=
 ⟨(setRow_other _ _ _ _ (by omega)).trans h.fst, (setRow_other _ _ _ _ (by omega)).trans h.snd, setRow_heap _ _ _ _ _ _ h.res, setRow_below h.bel (by omega) h.res⟩

set_option maxHeartbeats 20000000 in
theorem l5Last (w : World) (B : Nat) (av ao : Option Addr) (nv cv no co : Nat) (xs : List Int) (l : List OpV) (item : ByteArray) (ak : Option Addr) (nk ck : Nat) (ks : List Int) (hks : Ints w B ak nk ks) (hnk : nk ≤ 5) (h : Ops w B ao no l) (hB : B ≤ w.heap.size) (hn : no ≤ 1048576) (hc : cartB xs l = true) : Calls Tryz.prog 115 #[.agg #[.slice av nv cv, .slice ao no co], .string item, .slice ak nk ck] w fun e w' => e = .returned (bestTo (kindIn ks) item l l.length).val ∧ Below w.heap.size w w' := by
 have HC : Hid (∀ k, k < no → 0 ≤ (l.getD k OpV.zero).undos) := fun k hk => by
  obtain ⟨_, _, _, _, _, hok, _, _⟩ := cart_atV hc (i := k) (by rw [h.1]; exact hk)
  exact (undos_of hok).1
 have H := Lib.hid (Tri.mk0 w #[.slice av nv cv, .slice ao no co] #[.int .i64 0, .int .i64 0, .int .i64 0, .int .i64 0, .string ⟨#[]⟩, .int .i64 0, .int .i64 0, .int .i64 0] #[.int .i64 0, .int .i64 0, .int .i64 0, .int .i64 0, .string ⟨#[]⟩, .int .i64 0, .int .i64 0, .int .i64 0] 32 93 93)
 have HO := Lib.hid h
 have HK := Lib.hid hks
 have HL := Lib.hid h.1
 have HLk := Lib.hid hks.1
 clear h hc hks
 go_enter Tryz.func115, Tryz.ntmps115
 go_upto_region 2 with fail
 generalize ((w.alloc (.cells #[.slice av nv cv, .slice ao no co] 32)).alloc (.cells #[.int .i64 0, .int .i64 0, .int .i64 0, .int .i64 0, .string ⟨#[]⟩, .int .i64 0, .int .i64 0, .int .i64 0] 93)).alloc (.cells #[.int .i64 0, .int .i64 0, .int .i64 0, .int .i64 0, .string ⟨#[]⟩, .int .i64 0, .int .i64 0, .int .i64 0] 93) = w0 at H ⊢
 go_wp2_with fail
 go_loopw [8] (fun i wr => ∃ k : Nat, k ≤ no ∧ i = .int .i64 k ∧ Hid (Tri w wr #[.slice av nv cv, .slice ao no co] #[.int .i64 0, .int .i64 0, .int .i64 0, .int .i64 0, .string ⟨#[]⟩, .int .i64 0, .int .i64 0, .int .i64 0] (bestTo (kindIn ks) item l k).cells 32 93 93)) (fun i _ => no - (intOf i).toNat)
 case atStart => exact ⟨0, Nat.zero_le _, rfl, H⟩
 case round =>
  obtain ⟨k, hk, rfl, HT⟩ := hrel
  obtain ⟨c0, c1⟩ := pair_cells HT.out.fst
  by_cases hlt : k < no
  rotate_left
  ·obtain rfl : k = no := by omega
   generalize hbs : bestTo (kindIn ks) item l k = s at HT
   have HSe := Lib.hid hbs
   clear hbs
   go_wp2_with (first | (refine wpList_load_row rfl 93 (.tmp 7) rfl (w.heap.size + 1 + 1) rfl 93 s.cells (0, 0) _ HT.out.res Tryz.underlying93 rfl s.infoOp ?_) | (refine wpList_store_row rfl 93 (.tmp 6) (.tmp 63) rfl (w.heap.size + 1) s.cells rfl rfl 93 _ HT.out.snd s.infoOp rfl s.one ?_))
   have HXs := setRow_heap wr (w.heap.size + 1) _ s.cells 93 (0, 0) HT.out.snd
   exact bodyPost_ret (results_cell_row rfl _ _ _ _ _ _ _ rfl HXs Tryz.underlying93 rfl s.infoOp) rfl ⟨by rw [HL.out, HSe.out]; rfl, setRow_below HT.out.bel (by omega) HT.out.snd⟩
  have HOr := Lib.hid (HO.out.more hB)
  obtain ⟨b, off, rfl, hb, ho⟩ := HO.out.2 k hlt
  obtain ⟨d0, d1, d2, d3, d4, d5, d6, d7⟩ := ho.kept (HT.out.bel.block b (by omega))
  clear ho
  have hu0 := HC.out k hlt
  have HU : Hid (bestTo (kindIn ks) item l (k + 1) = if (kindIn ks (l.getD k OpV.zero).kind = true ∧ (l.getD k OpV.zero).item = item ∧ (l.getD k OpV.zero).undos % 2 = 0) ∧ ((bestTo (kindIn ks) item l k).kind = 0 ∨ preV (bestTo (kindIn ks) item l k) (l.getD k OpV.zero) = true) then l.getD k OpV.zero else bestTo (kindIn ks) item l k) := rfl
  generalize l.getD k OpV.zero = x at HU hu0 d0 d1 d2 d3 d4 d5 d6 d7
  go_upto_region 6 with fail
  have HX := Lib.hid (boxAt (Below.refl _ (wr.alloc (.cells #[.int .i64 x.dev, .int .i64 x.seq, .int .i64 x.stamp, .int .i64 x.kind, .string x.item, .int .i64 x.qty, .int .i64 x.level, .int .i64 x.undos] 93))))
  have HT1 := Lib.hid (HT.out.next ((Below.refl _ wr).alloc (Nat.le_refl _) (.cells #[.int .i64 x.dev, .int .i64 x.seq, .int .i64 x.stamp, .int .i64 x.kind, .string x.item, .int .i64 x.qty, .int .i64 x.level, .int .i64 x.undos] 93)))
  have hlo : w.heap.size + 1 + 1 < wr.heap.size := (Array.getElem?_eq_some_iff.1 HT.out.res).1
  generalize wr.alloc (.cells #[.int .i64 x.dev, .int .i64 x.seq, .int .i64 x.stamp, .int .i64 x.kind, .string x.item, .int .i64 x.qty, .int .i64 x.level, .int .i64 x.undos] 93) = w1 at HX HT1 ⊢
  generalize wr.heap.size = bo at HX hlo ⊢
  clear d0 d1 d2 d3 d4 d5 d6 d7 c0 c1 HT
  go_wp2_with fail
  go_loopw [10, 11] (fun t j wi => ∃ q : Nat, q ≤ nk ∧ j = .int .i64 q ∧ t = .bool (inTo ks x.kind q) ∧ Hid (Same w1 wi)) (fun _ j _ => nk - (intOf j).toNat)
  case atStart => exact ⟨0, Nat.zero_le _, rfl, rfl, Same.refl _⟩
  case round =>
   obtain ⟨q, hq, rfl, rfl, HSm⟩ := hrel
   have hXi := (HSm.out.block bo).trans HX.out
   by_cases hqn : q < nk
   ·have d3 := cell_of_row wr bo 3 _ _ _ hXi
    simp only [List.getElem?_toArray, List.getElem?_cons_zero, List.getElem?_cons_succ] at d3
    obtain ⟨bk, offk, rfl, hbk, hkc⟩ := HK.out.2 q hqn
    have ck := (World.cell?_of_block (a := ⟨bk, offk + q, none⟩) ((HSm.out.block bk).trans (HT1.out.bel.block bk (by omega)))).trans hkc
    have HS := Lib.hid (inTo_step (kind := x.kind) (by rw [HLk.out]; exact hqn))
    clear hXi hkc
    generalize hin : inTo ks x.kind q = bq
    have HIn := Lib.hid hin
    clear hin
    cases bq
    ·by_cases e : ks.getD q 0 = x.kind
     ·have HE : Hid (inTo ks x.kind (q + 1) = true) := by show _ = _; rw [HS.out, HIn.out, decide_eq_true e]; rfl
      have be : (ks.getD q 0 == x.kind) = true := by rw [e]; exact beq_self_eq_true _
      clear e HS
      generalize ks.getD q 0 = y at ck be
      go_wp2
      go_quiet (fail)
      go_wp2
      go_roundw
      case rel => exact ⟨q + 1, by omega, by go_num, by rw [HE.out], HSm.out.more _⟩
      case measure => simp [intOf]; omega
     ·have HE : Hid (inTo ks x.kind (q + 1) = false) := by show _ = _; rw [HS.out, HIn.out, decide_eq_false e]; rfl
      have be : (ks.getD q 0 == x.kind) = false := by rw [beq_eq_false_iff_ne]; exact e
      clear e HS
      generalize ks.getD q 0 = y at ck be
      go_wp2
      go_quiet (fail)
      go_wp2
      go_roundw
      case rel => exact ⟨q + 1, by omega, by go_num, by rw [HE.out], HSm.out.more _⟩
      case measure => simp [intOf]; omega
    ·have HE : Hid (inTo ks x.kind (q + 1) = true) := by show _ = _; rw [HS.out, HIn.out]; rfl
     clear HS
     go_wp2
     go_quiet (fail)
     go_wp2
     go_roundw
     case rel => exact ⟨q + 1, by omega, by go_num, by rw [HE.out], HSm.out.more _⟩
     case measure => simp [intOf]; omega
   obtain rfl : q = nk := by omega
   have HKi : Hid (inTo ks x.kind q = kindIn ks x.kind) := by show _ = _; rw [← HLk.out]; exact inTo_all _ _
   have HT2 : Hid (Tri w wr #[.slice av nv cv, .slice (some ⟨b, off, none⟩) no co] #[.int .i64 0, .int .i64 0, .int .i64 0, .int .i64 0, .string ⟨#[]⟩, .int .i64 0, .int .i64 0, .int .i64 0] (bestTo (kindIn ks) item l k).cells 32 93 93) := ⟨(HSm.out.block _).trans HT1.out.fst, (HSm.out.block _).trans HT1.out.snd, (HSm.out.block _).trans HT1.out.res, HT1.out.bel.trans (HSm.out.below _)⟩
   have HX2 : Hid (wr.heap[bo]? = some (.cells x.cells 93 (0, 0))) := hXi
   clear hXi HT1 HX HSm
   generalize bestTo (kindIn ks) item l k = s at HT2 HU
   rw [HKi.out]
   generalize kindIn ks x.kind = kb at HU
   clear HKi
   cases kb
   ·have HE : Hid (bestTo (kindIn ks) item l (k + 1) = s) := by show _ = _; rw [HU.out, if_neg (fun h => by simp at h)]
    clear HU
    go_wp2
    go_roundw
    case rel => exact ⟨k + 1, by omega, by go_num, by rw [HE.out]; exact HT2⟩
    case measure => simp [intOf]; omega
   obtain ⟨o0, o1, o2, o3, o4, o5, o6, o7⟩ := op_at HX2.out
   obtain ⟨s0, s1, s2, s3, s4, s5, s6, s7⟩ := op_at HT2.out.res
   by_cases hd : x.item = item
   rotate_left
   ·have hbq : (x.item.toList == item.toList) = false := by rw [beq_eq_false_iff_ne]; exact fun h => hd (text_ext h)
    have HE : Hid (bestTo (kindIn ks) item l (k + 1) = s) := by show _ = _; rw [HU.out, if_neg (fun h => hd h.1.2.1)]
    clear hd HU
    go_wp2
    go_roundw
    case rel => exact ⟨k + 1, by omega, by go_num, by rw [HE.out]; exact HT2⟩
    case measure => simp [intOf]; omega
   have hbq : (x.item.toList == item.toList) = true := by rw [hd]; exact beq_self_eq_true _
   have HD := Lib.hid hd
   clear hd
   go_wp2_with fail
   refine (l3Live x.dev x.seq x.stamp x.kind x.item x.qty x.level x.undos _ hu0).mono ?_
   rintro e w3 ⟨rfl, hb3⟩
   have HT3 := Lib.hid (HT2.out.next hb3)
   have HX3 := Lib.hid ((hb3.block _ (Array.getElem?_eq_some_iff.1 HX2.out).1).trans HX2.out)
   clear hb3 HT2 HX2 o0 o1 o2 o3 o4 o5 o6 o7 s0 s1 s2 s3 s4 s5 s6 s7
   obtain ⟨o0, o1, o2, o3, o4, o5, o6, o7⟩ := op_at HX3.out
   obtain ⟨s0, s1, s2, s3, s4, s5, s6, s7⟩ := op_at HT3.out.res
   by_cases hu : x.undos % 2 = 0
   rotate_left
   ·have hqd : decide (x.undos % 2 = 0) = false := decide_eq_false hu
    have HE : Hid (bestTo (kindIn ks) item l (k + 1) = s) := by show _ = _; rw [HU.out, if_neg (fun h => hu h.1.2.2)]
    rw [hqd]
    clear hu hqd HU
    go_wp2
    go_roundw
    case rel => exact ⟨k + 1, by omega, by go_num, by rw [HE.out]; exact HT3⟩
    case measure => simp [intOf]; omega
   have hqd : decide (x.undos % 2 = 0) = true := decide_eq_true hu
   rw [hqd]
   have HUu := Lib.hid hu
   clear hu hqd
   by_cases hz : s.kind = 0
   ·have bz : (s.kind == 0) = true := by rw [hz]; rfl
    have HE : Hid (bestTo (kindIn ks) item l (k + 1) = x) := by show _ = _; rw [HU.out, if_pos ⟨⟨by trivial, HD.out, HUu.out⟩, .inl hz⟩]
    clear hz HU
    go_wp2_with (first | (refine wpList_store_row rfl 93 (.tmp 7) (.tmp 62) rfl (w.heap.size + 1 + 1) x.cells rfl rfl 93 _ HT3.out.res x.infoOp rfl x.one ?_))
    go_roundw
    case rel => exact ⟨k + 1, by omega, by go_num, by rw [HE.out]; exact HT3.out.setRes _⟩
    case measure => simp [intOf]; omega
   have bz : (s.kind == 0) = false := by rw [beq_eq_false_iff_ne]; exact hz
   have HZ := Lib.hid hz
   clear hz
   go_wp2_with fail
   refine (l3Before s.dev s.seq s.stamp s.kind s.item s.qty s.level s.undos x.dev x.seq x.stamp x.kind x.item x.qty x.level x.undos _).mono ?_
   rintro e w4 ⟨rfl, hb4⟩
   have HT4 := Lib.hid (HT3.out.next hb4)
   have HX4 := Lib.hid ((hb4.block _ (Array.getElem?_eq_some_iff.1 HX3.out).1).trans HX3.out)
   clear hb4 HT3 HX3 o0 o1 o2 o3 o4 o5 o6 o7 s0 s1 s2 s3 s4 s5 s6 s7
   obtain ⟨o0, o1, o2, o3, o4, o5, o6, o7⟩ := op_at HX4.out
   have HPv : Hid (preV s x = preB s.stamp s.dev s.seq x.stamp x.dev x.seq) := rfl
   rcases hp : preB s.stamp s.dev s.seq x.stamp x.dev x.seq with _ | _
   ·have HE : Hid (bestTo (kindIn ks) item l (k + 1) = s) := by show _ = _; rw [HU.out, if_neg (fun h => h.2.elim HZ.out (fun h => by rw [HPv.out, hp] at h; cases h))]
    clear hp HU
    go_wp2
    go_roundw
    case rel => exact ⟨k + 1, by omega, by go_num, by rw [HE.out]; exact HT4⟩
    case measure => simp [intOf]; omega
   ·have HE : Hid (bestTo (kindIn ks) item l (k + 1) = x) := by show _ = _; rw [HU.out, if_pos ⟨⟨by trivial, HD.out, HUu.out⟩, .inr (by rw [HPv.out, hp])⟩]
    clear hp HU
    go_wp2_with (first | (refine wpList_store_row rfl 93 (.tmp 7) (.tmp 62) rfl (w.heap.size + 1 + 1) x.cells rfl rfl 93 _ HT4.out.res x.infoOp rfl x.one ?_))
    go_roundw
    case rel => exact ⟨k + 1, by omega, by go_num, by rw [HE.out]; exact HT4.out.setRes _⟩
    case measure => simp [intOf]; omega

theorem kin_plc : kindIn [1, 4, 5] = plcB := by
 funext k
 rw [Bool.eq_iff_iff]
 simp [kindIn, plcB]
 omega
theorem levTo_pos (item : ByteArray) (l : List OpV) : ∀ k, 0 ≤ levTo item l k
 | 0 => Int.le_refl _
 | k + 1 => by
  have := levTo_pos item l k
  rw [levTo]
  split <;> omega
theorem Tryz.fieldKind (o : OpV) (w : World) : Sem.run Tryz.prog (Instr.field 93 o.val 3) w = .ok (.int .i64 o.kind) w := by kernel_rfl
set_option maxHeartbeats 10000000 in
theorem l5There (w : World) (B : Nat) (av ao : Option Addr) (nv cv no co : Nat) (xs : List Int) (l : List OpV) (item : ByteArray) (h : Ops w B ao no l) (hB : B ≤ w.heap.size) (hn : no ≤ 1048576) (hc : cartB xs l = true) : Calls Tryz.prog 114 #[.agg #[.slice av nv cv, .slice ao no co], .string item] w fun e w' => e = .returned (.bool (decide (levTo item l l.length % 2 = 1))) ∧ Below w.heap.size w w' := by
 have HP := Lib.hid (levTo_pos item l l.length)
 have HC := Lib.hid hc
 clear hc
 have hb0 : Below w.heap.size w (w.alloc (.cells #[.slice av nv cv, .slice ao no co] 32)) := (Below.refl _ w).alloc (Nat.le_refl _) _
 have HO := Lib.hid (h.below hb0 hB)
 have HB := Lib.hid hb0
 have HX := Lib.hid (boxAt (Below.refl _ (w.alloc (.cells #[.slice av nv cv, .slice ao no co] 32))))
 have hsz : w.heap.size < (w.alloc (.cells #[.slice av nv cv, .slice ao no co] 32)).heap.size := by show _ < (w.heap.push _).size; simp
 clear h hb0
 obtain ⟨c0, c1⟩ := pair_cells HX.out
 by_cases hm : levTo item l l.length % 2 = 1
 ·have hmb : (levTo item l l.length % 2 == 1) = true := by rw [hm]; rfl
  have HD := Lib.hid (decide_eq_true hm)
  clear hm
  go_enter Tryz.func114, Tryz.ntmps114
  go_wp2_with fail
  generalize w.alloc (.cells #[.slice av nv cv, .slice ao no co] 32) = w0 at HO HB HX hsz c0 c1 ⊢
  refine (l5Level w0 B av ao nv cv no co xs l item HO.out (by omega) hn HC.out).mono ?_
  rintro e w1 ⟨rfl, hb⟩
  have HB1 := Lib.hid (HB.out.trans (hb.mono HB.out.size))
  have hp := HP.out
  clear hb c0 c1
  generalize levTo item l l.length = u at hmb hp ⊢
  go_wp2
  go_ret
  exact ⟨by rw [HD.out]; rfl, HB1.out⟩
 ·have hmb : (levTo item l l.length % 2 == 1) = false := by rw [beq_eq_false_iff_ne]; exact hm
  have HD := Lib.hid (decide_eq_false hm)
  clear hm
  go_enter Tryz.func114, Tryz.ntmps114
  go_wp2_with fail
  generalize w.alloc (.cells #[.slice av nv cv, .slice ao no co] 32) = w0 at HO HB HX hsz c0 c1 ⊢
  refine (l5Level w0 B av ao nv cv no co xs l item HO.out (by omega) hn HC.out).mono ?_
  rintro e w1 ⟨rfl, hb⟩
  have HB1 := Lib.hid (HB.out.trans (hb.mono HB.out.size))
  have hp := HP.out
  clear hb c0 c1
  generalize levTo item l l.length = u at hmb hp ⊢
  go_wp2
  go_ret
  exact ⟨by rw [HD.out]; rfl, HB1.out⟩
set_option maxHeartbeats 10000000 in
theorem l5Saved (w : World) (B : Nat) (av ao : Option Addr) (nv cv no co : Nat) (xs : List Int) (l : List OpV) (item : ByteArray) (h : Ops w B ao no l) (hB : B ≤ w.heap.size) (hn : no ≤ 1048576) (hc : cartB xs l = true) : Calls Tryz.prog 92 #[.agg #[.slice av nv cv, .slice ao no co], .string item] w fun e w' => e = .returned (.bool (decide ((bestTo plcB item l l.length).kind = 4))) ∧ Below w.heap.size w w' := by
 have HC := Lib.hid hc
 clear hc
 have hb0 : Below w.heap.size w (w.alloc (.cells #[.slice av nv cv, .slice ao no co] 32)) := (Below.refl _ w).alloc (Nat.le_refl _) _
 have HO := Lib.hid (h.below hb0 hB)
 have HB := Lib.hid hb0
 have HX := Lib.hid (boxAt (Below.refl _ (w.alloc (.cells #[.slice av nv cv, .slice ao no co] 32))))
 have hsz : w.heap.size < (w.alloc (.cells #[.slice av nv cv, .slice ao no co] 32)).heap.size := by show _ < (w.heap.push _).size; simp
 clear h hb0
 obtain ⟨c0, c1⟩ := pair_cells HX.out
 by_cases hk : (bestTo plcB item l l.length).kind = 4
 ·have hkb : ((bestTo plcB item l l.length).kind == 4) = true := by rw [hk]; rfl
  have HD := Lib.hid (decide_eq_true hk)
  clear hk
  go_enter Tryz.func92, Tryz.ntmps92
  go_wp2_with fail
  have hsz1 : (w.alloc (.cells #[.slice av nv cv, .slice ao no co] 32)).heap.size = w.heap.size + 1 := by simp
  generalize w.alloc (.cells #[.slice av nv cv, .slice ao no co] 32) = w0 at HO HB HX hsz c0 c1 hsz1 ⊢
  have hkb0 := boxAt (Below.refl _ (w0.alloc (.cells #[.int .i64 1, .int .i64 4, .int .i64 5] 2)))
  have hbk : Below w0.heap.size w0 (w0.alloc (.cells #[.int .i64 1, .int .i64 4, .int .i64 5] 2)) := bl
  have HO1 := Lib.hid (HO.out.below hbk (by omega))
  have HB1 := Lib.hid (HB.out.trans (hbk.mono HB.out.size))
  have hs1 := hbk.size
  generalize w0.alloc (.cells #[.int .i64 1, .int .i64 4, .int .i64 5] 2) = w1 at hkb0 HO1 HB1 hs1 ⊢
  rw [hsz1] at hkb0
  have HKb := Lib.hid hkb0
  have HKl : Hid (w.heap.size + 1 < w1.heap.size) := (Array.getElem?_eq_some_iff.1 hkb0).1
  clear hkb0 hsz1 hbk c0 c1
  refine (l5Last w1 w1.heap.size av ao nv cv no co xs l item _ 3 _ [1, 4, 5] (ints_of_block (xs := [1, 4, 5]) HKb.out HKl.out rfl) (by omega) (HO1.out.more (by omega)) (Nat.le_refl _) hn HC.out).mono ?_
  rintro e w2 ⟨rfl, hb⟩
  have HB2 := Lib.hid (HB1.out.trans (hb.mono HB1.out.size))
  clear hb HKb
  rw [kin_plc]
  generalize bestTo plcB item l l.length = o at hkb ⊢
  have hfl := Tryz.fieldKind o
  go_wp2
  go_ret
  exact ⟨by rw [HD.out]; rfl, HB2.out⟩
 ·have hkb : ((bestTo plcB item l l.length).kind == 4) = false := by rw [beq_eq_false_iff_ne]; exact hk
  have HD := Lib.hid (decide_eq_false hk)
  clear hk
  go_enter Tryz.func92, Tryz.ntmps92
  go_wp2_with fail
  have hsz1 : (w.alloc (.cells #[.slice av nv cv, .slice ao no co] 32)).heap.size = w.heap.size + 1 := by simp
  generalize w.alloc (.cells #[.slice av nv cv, .slice ao no co] 32) = w0 at HO HB HX hsz c0 c1 hsz1 ⊢
  have hkb0 := boxAt (Below.refl _ (w0.alloc (.cells #[.int .i64 1, .int .i64 4, .int .i64 5] 2)))
  have hbk : Below w0.heap.size w0 (w0.alloc (.cells #[.int .i64 1, .int .i64 4, .int .i64 5] 2)) := bl
  have HO1 := Lib.hid (HO.out.below hbk (by omega))
  have HB1 := Lib.hid (HB.out.trans (hbk.mono HB.out.size))
  have hs1 := hbk.size
  generalize w0.alloc (.cells #[.int .i64 1, .int .i64 4, .int .i64 5] 2) = w1 at hkb0 HO1 HB1 hs1 ⊢
  rw [hsz1] at hkb0
  have HKb := Lib.hid hkb0
  have HKl : Hid (w.heap.size + 1 < w1.heap.size) := (Array.getElem?_eq_some_iff.1 hkb0).1
  clear hkb0 hsz1 hbk c0 c1
  refine (l5Last w1 w1.heap.size av ao nv cv no co xs l item _ 3 _ [1, 4, 5] (ints_of_block (xs := [1, 4, 5]) HKb.out HKl.out rfl) (by omega) (HO1.out.more (by omega)) (Nat.le_refl _) hn HC.out).mono ?_
  rintro e w2 ⟨rfl, hb⟩
  have HB2 := Lib.hid (HB1.out.trans (hb.mono HB1.out.size))
  clear hb HKb
  rw [kin_plc]
  generalize bestTo plcB item l l.length = o at hkb ⊢
  have hfl := Tryz.fieldKind o
  go_wp2
  go_ret
  exact ⟨by rw [HD.out]; rfl, HB2.out⟩
end Go.Proofs.YtjokbaaommicmaaGreatDoor
