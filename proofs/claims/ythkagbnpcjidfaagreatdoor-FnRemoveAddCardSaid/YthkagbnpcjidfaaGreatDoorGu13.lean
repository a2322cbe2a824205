/- Walks and mathematics that several claims share, part 13. -/
import Derived.Test.YthkagbnpcjidfaaGreatDoorGu12
import Derived.Great.BuildSlice
import Derived.Deep.QuietTactic
import Derived.BigQuiet
import Derived.Deep.Cut
namespace Go.Proofs.YthkagbnpcjidfaaGreatDoor
set_option maxRecDepth 100000
open Go.RowKit
set_option linter.unusedVariables false
set_option linter.unusedSimpArgs false
def fX (ks : List Int) (kind : Int) : Bool := ks.any (fun k => decide (k = kind))
def yI (ks : List Int) (kind : Int) (j : Nat) : Bool := fX (ks.take j) kind
theorem aGW {ks : List Int} {kind : Int} {j : Nat} (h : j < ks.length) : yI ks kind (j + 1) = (yI ks kind j || decide (ks.getD j 0 = kind)) := by
 unfold yI fX
 rw [List.take_succ_eq_append_getElem h, List.any_append, List.getD_eq_getElem?_getD, List.getElem?_eq_getElem h]
 simp
theorem aIf (ks : List Int) (kind : Int) : yI ks kind ks.length = fX ks kind := by unfold yI; rw [List.take_length]
theorem aA.one (o : aA) : o.cells.all (·.oneCell') = true := by simp [aA.cells, Value.oneCell']
theorem Same.more {w w' : World} (h : Same w w') (n : Nat) : Same w (w'.drewN n) := by
 obtain ⟨m, rfl⟩ := h
 exact ⟨m + n, World.drewN_drewN ..⟩
theorem kH.setRes {w w1 : World} {x y z : Array Value} {S T U : TypeId} (h : kH w w1 x y z S T U) (cs : Array Value) : kH w (w1.setRow (w.heap.size + 1 + 1) cs) x y cs S T U :=
 ⟨(setRow_other _ _ _ _ (by omega)).trans h.fst, (setRow_other _ _ _ _ (by omega)).trans h.snd, setRow_heap _ _ _ _ _ _ h.res, eY h.bel (by omega) h.res⟩
set_option maxHeartbeats 20000000 in
theorem aGL (w : World) (B : Nat) (av ao : Option Addr) (nv cv no co : Nat) (xs : List Int) (l : List aA) (item : ByteArray) (ak : Option Addr) (nk ck : Nat) (ks : List Int) (hks : Ints w B ak nk ks) (hnk : nk ≤ 5) (h : bP w B ao no l) (hB : B ≤ w.heap.size) (hn : no ≤ 1048576) (hc : aE xs l = true) : Calls Tryz.prog 137 #[.agg #[.slice av nv cv, .slice ao no co], .string item, .slice ak nk ck] w fun e w' => e = .returned (bE (fX ks) item l l.length).val ∧ Below w.heap.size w w' := by
 have HC : Hid (∀ k, k < no → 0 ≤ (l.getD k aA.zero).undos) := fun k hk => by
  obtain ⟨_, _, _, _, _, hok, _, _⟩ := gE hc (i := k) (by rw [h.1]; exact hk)
  exact (H7 hok).1
 have H := aPo (kH.mk0 w #[.slice av nv cv, .slice ao no co] #[.int .i64 0, .int .i64 0, .int .i64 0, .int .i64 0, .string ⟨#[]⟩, .int .i64 0, .int .i64 0, .int .i64 0] #[.int .i64 0, .int .i64 0, .int .i64 0, .int .i64 0, .string ⟨#[]⟩, .int .i64 0, .int .i64 0, .int .i64 0] 27 50 50)
 have HO := aPo h
 have HK := aPo hks
 have HL := aPo h.1
 have uB := aPo hks.1
 clear h hc hks
 go_enter Tryz.func137, Tryz.ntmps137
 go_upto_region 2 with fail
 generalize ((w.alloc (.cells #[.slice av nv cv, .slice ao no co] 27)).alloc (.cells #[.int .i64 0, .int .i64 0, .int .i64 0, .int .i64 0, .string ⟨#[]⟩, .int .i64 0, .int .i64 0, .int .i64 0] 50)).alloc (.cells #[.int .i64 0, .int .i64 0, .int .i64 0, .int .i64 0, .string ⟨#[]⟩, .int .i64 0, .int .i64 0, .int .i64 0] 50) = w0 at H ⊢
 go_wp2_with fail
 go_loopw [8] (fun i wr => ∃ k : Nat, k ≤ no ∧ i = .int .i64 k ∧ Hid (kH w wr #[.slice av nv cv, .slice ao no co] #[.int .i64 0, .int .i64 0, .int .i64 0, .int .i64 0, .string ⟨#[]⟩, .int .i64 0, .int .i64 0, .int .i64 0] (bE (fX ks) item l k).cells 27 50 50)) (fun i _ => no - (intOf i).toNat)
 case atStart => exact ⟨0, Nat.zero_le _, rfl, H⟩
 case round =>
  obtain ⟨k, hk, rfl, HT⟩ := hrel; obtain ⟨c0, c1⟩ := pair_cells HT.out.fst
  by_cases aJ : k < no
  rotate_left
  ·obtain rfl : k = no := by omega
   generalize tU : bE (fX ks) item l k = s at HT; have lL := aPo tU; clear tU
   go_wp2_with (first | (refine wpList_load_row rfl 50 (.tmp 7) rfl (w.heap.size + 1 + 1) rfl 50 s.cells (0, 0) _ HT.out.res Tryz.underlying50 rfl s.infoOp ?_) | (refine wpList_store_row rfl 50 (.tmp 6) (.tmp 63) rfl (w.heap.size + 1) s.cells rfl rfl 50 _ HT.out.snd s.infoOp rfl s.one ?_))
   have HXs := setRow_heap wr (w.heap.size + 1) _ s.cells 50 (0, 0) HT.out.snd; exact bodyPost_ret (results_cell_row rfl _ _ _ _ _ _ _ rfl HXs Tryz.underlying50 rfl s.infoOp) rfl ⟨by rw [HL.out, lL.out]; rfl, eY HT.out.bel (by omega) HT.out.snd⟩
  have HOr := aPo (HO.out.more hB); obtain ⟨b, off, rfl, hb, ho⟩ := HO.out.2 k aJ; obtain ⟨d0, d1, d2, d3, d4, d5, d6, d7⟩ := ho.kept (HT.out.bel.block b (by omega))
  clear ho; have M9 := HC.out k aJ; have HU : Hid (bE (fX ks) item l (k + 1) = if (fX ks (l.getD k aA.zero).kind = true ∧ (l.getD k aA.zero).item = item ∧ (l.getD k aA.zero).undos % 2 = 0) ∧ ((bE (fX ks) item l k).kind = 0 ∨ oQ (bE (fX ks) item l k) (l.getD k aA.zero) = true) then l.getD k aA.zero else bE (fX ks) item l k) := rfl; generalize l.getD k aA.zero = x at HU M9 d0 d1 d2 d3 d4 d5 d6 d7
  go_upto_region 6 with fail
  have HX := aPo (bX (Below.refl _ (wr.alloc (.cells #[.int .i64 x.dev, .int .i64 x.seq, .int .i64 x.stamp, .int .i64 x.kind, .string x.item, .int .i64 x.qty, .int .i64 x.level, .int .i64 x.undos] 50)))); have bC := aPo (HT.out.next ((Below.refl _ wr).alloc aPq (.cells #[.int .i64 x.dev, .int .i64 x.seq, .int .i64 x.stamp, .int .i64 x.kind, .string x.item, .int .i64 x.qty, .int .i64 x.level, .int .i64 x.undos] 50))); have iE : w.heap.size + 1 + 1 < wr.heap.size := (aPp HT.out.res).1; generalize wr.alloc (.cells #[.int .i64 x.dev, .int .i64 x.seq, .int .i64 x.stamp, .int .i64 x.kind, .string x.item, .int .i64 x.qty, .int .i64 x.level, .int .i64 x.undos] 50) = w1 at HX bC ⊢; generalize wr.heap.size = bo at HX iE ⊢; clear d0 d1 d2 d3 d4 d5 d6 d7 c0 c1 HT
  go_wp2_with fail
  go_loopw [10, 11] (fun t j wi => ∃ q : Nat, q ≤ nk ∧ j = .int .i64 q ∧ t = .bool (yI ks x.kind q) ∧ Hid (Same w1 wi)) (fun _ j _ => nk - (intOf j).toNat)
  case atStart => exact ⟨0, Nat.zero_le _, rfl, rfl, Same.refl _⟩
  case round =>
   obtain ⟨q, hq, rfl, rfl, zL⟩ := hrel; have hXi := (zL.out.block bo).trans HX.out
   by_cases hqn : q < nk
   ·have d3 := cell_of_row wr bo 3 _ _ _ hXi
    simp only [List.getElem?_toArray, List.getElem?_cons_zero, List.getElem?_cons_succ] at d3
    obtain ⟨bk, aNg, rfl, F8, hkc⟩ := HK.out.2 q hqn; have ck := (World.cell?_of_block (a := ⟨bk, aNg + q, none⟩) ((zL.out.block bk).trans (bC.out.bel.block bk (by omega)))).trans hkc
    have HS := aPo (aGW (kind := x.kind) (by rw [uB.out]; exact hqn))
    clear hXi hkc; generalize hin : yI ks x.kind q = bq; have qW := aPo hin; clear hin; cases bq
    ·by_cases e : ks.getD q 0 = x.kind
     ·have HE : Hid (yI ks x.kind (q + 1) = true) := by show _ = _; rw [HS.out, qW.out, decide_eq_true e]; rfl
      have be : (ks.getD q 0 == x.kind) = true := by rw [e]; exact beq_self_eq_true _
      clear e HS; generalize ks.getD q 0 = y at ck be; go_wp2
      go_quiet (fail)
      go_wp2
      go_roundw
      case rel => exact ⟨q + 1, by omega, by go_num, by rw [HE.out], zL.out.more _⟩
      case measure => simp [intOf]; omega
     ·have HE : Hid (yI ks x.kind (q + 1) = false) := by show _ = _; rw [HS.out, qW.out, decide_eq_false e]; rfl
      have be : (ks.getD q 0 == x.kind) = false := by rw [beq_eq_false_iff_ne]; exact e
      clear e HS; generalize ks.getD q 0 = y at ck be; go_wp2
      go_quiet (fail)
      go_wp2
      go_roundw
      case rel => exact ⟨q + 1, by omega, by go_num, by rw [HE.out], zL.out.more _⟩
      case measure => simp [intOf]; omega
    ·have HE : Hid (yI ks x.kind (q + 1) = true) := by show _ = _; rw [HS.out, qW.out]; rfl
     clear HS; go_wp2
     go_quiet (fail)
     go_wp2
     go_roundw
     case rel => exact ⟨q + 1, by omega, by go_num, by rw [HE.out], zL.out.more _⟩
     case measure => simp [intOf]; omega
   obtain rfl : q = nk := by omega
   have C7 : Hid (yI ks x.kind q = fX ks x.kind) := by show _ = _; rw [← uB.out]; exact aIf _ _
   have aK : Hid (kH w wr #[.slice av nv cv, .slice (some ⟨b, off, none⟩) no co] #[.int .i64 0, .int .i64 0, .int .i64 0, .int .i64 0, .string ⟨#[]⟩, .int .i64 0, .int .i64 0, .int .i64 0] (bE (fX ks) item l k).cells 27 50 50) := ⟨(zL.out.block _).trans bC.out.fst, (zL.out.block _).trans bC.out.snd, (zL.out.block _).trans bC.out.res, bC.out.bel.trans (zL.out.below _)⟩; have pU : Hid (wr.heap[bo]? = some (.cells x.cells 50 (0, 0))) := hXi; clear hXi bC HX zL; generalize bE (fX ks) item l k = s at aK HU; rw [C7.out]; generalize fX ks x.kind = kb at HU; clear C7; cases kb
   ·have HE : Hid (bE (fX ks) item l (k + 1) = s) := by show _ = _; rw [HU.out, if_neg (fun h => by simp at h)]
    clear HU; go_wp2
    go_roundw
    case rel => exact ⟨k + 1, by omega, by go_num, by rw [HE.out]; exact aK⟩
    case measure => simp [intOf]; omega
   obtain ⟨o0, o1, o2, o3, o4, o5, o6, o7⟩ := fS pU.out; obtain ⟨s0, s1, s2, s3, s4, s5, s6, s7⟩ := fS aK.out.res
   by_cases hd : x.item = item
   rotate_left
   ·have hbq : (x.item.toList == item.toList) = false := by rw [beq_eq_false_iff_ne]; exact fun h => hd (l5 h)
    have HE : Hid (bE (fX ks) item l (k + 1) = s) := by show _ = _; rw [HU.out, if_neg (fun h => hd h.1.2.1)]
    clear hd HU; go_wp2
    go_roundw
    case rel => exact ⟨k + 1, by omega, by go_num, by rw [HE.out]; exact aK⟩
    case measure => simp [intOf]; omega
   have hbq : (x.item.toList == item.toList) = true := by rw [hd]; exact beq_self_eq_true _
   have HD := aPo hd; clear hd
   go_wp2_with fail
   refine (aCO x.dev x.seq x.stamp x.kind x.item x.qty x.level x.undos _ M9).mono ?_
   rintro e w3 ⟨rfl, aV⟩; have bH := aPo (aK.out.next aV); have mD := aPo ((aV.block _ (aPp pU.out).1).trans pU.out); clear aV aK pU o0 o1 o2 o3 o4 o5 o6 o7 s0 s1 s2 s3 s4 s5 s6 s7; obtain ⟨o0, o1, o2, o3, o4, o5, o6, o7⟩ := fS mD.out; obtain ⟨s0, s1, s2, s3, s4, s5, s6, s7⟩ := fS bH.out.res
   by_cases hu : x.undos % 2 = 0
   rotate_left
   ·have hqd : decide (x.undos % 2 = 0) = false := decide_eq_false hu
    have HE : Hid (bE (fX ks) item l (k + 1) = s) := by show _ = _; rw [HU.out, if_neg (fun h => hu h.1.2.2)]
    rw [hqd]; clear hu hqd HU; go_wp2
    go_roundw
    case rel => exact ⟨k + 1, by omega, by go_num, by rw [HE.out]; exact bH⟩
    case measure => simp [intOf]; omega
   have hqd : decide (x.undos % 2 = 0) = true := decide_eq_true hu; rw [hqd]; have HUu := aPo hu; clear hu hqd
   by_cases hz : s.kind = 0
   ·have bz : (s.kind == 0) = true := by rw [hz]; rfl
    have HE : Hid (bE (fX ks) item l (k + 1) = x) := by show _ = _; rw [HU.out, if_pos ⟨⟨by trivial, HD.out, HUu.out⟩, .inl hz⟩]
    clear hz HU
    go_wp2_with (first | (refine wpList_store_row rfl 50 (.tmp 7) (.tmp 62) rfl (w.heap.size + 1 + 1) x.cells rfl rfl 50 _ bH.out.res x.infoOp rfl x.one ?_))
    go_roundw
    case rel => exact ⟨k + 1, by omega, by go_num, by rw [HE.out]; exact bH.out.setRes _⟩
    case measure => simp [intOf]; omega
   have bz : (s.kind == 0) = false := by rw [beq_eq_false_iff_ne]; exact hz
   have HZ := aPo hz; clear hz
   go_wp2_with fail
   refine (aH9 s.dev s.seq s.stamp s.kind s.item s.qty s.level s.undos x.dev x.seq x.stamp x.kind x.item x.qty x.level x.undos _).mono ?_
   rintro e w4 ⟨rfl, dJ⟩; have gB := aPo (bH.out.next dJ); have O1 := aPo ((dJ.block _ (aPp mD.out).1).trans mD.out); clear dJ bH mD o0 o1 o2 o3 o4 o5 o6 o7 s0 s1 s2 s3 s4 s5 s6 s7; obtain ⟨o0, o1, o2, o3, o4, o5, o6, o7⟩ := fS O1.out; have HPv : Hid (oQ s x = preB s.stamp s.dev s.seq x.stamp x.dev x.seq) := rfl; rcases hp : preB s.stamp s.dev s.seq x.stamp x.dev x.seq with _ | _
   ·have HE : Hid (bE (fX ks) item l (k + 1) = s) := by show _ = _; rw [HU.out, if_neg (fun h => h.2.elim HZ.out (fun h => by rw [HPv.out, hp] at h; cases h))]
    clear hp HU; go_wp2
    go_roundw
    case rel => exact ⟨k + 1, by omega, by go_num, by rw [HE.out]; exact gB⟩
    case measure => simp [intOf]; omega
   ·have HE : Hid (bE (fX ks) item l (k + 1) = x) := by show _ = _; rw [HU.out, if_pos ⟨⟨by trivial, HD.out, HUu.out⟩, .inr (by rw [HPv.out, hp])⟩]
    clear hp HU
    go_wp2_with (first | (refine wpList_store_row rfl 50 (.tmp 7) (.tmp 62) rfl (w.heap.size + 1 + 1) x.cells rfl rfl 50 _ gB.out.res x.infoOp rfl x.one ?_))
    go_roundw
    case rel => exact ⟨k + 1, by omega, by go_num, by rw [HE.out]; exact gB.out.setRes _⟩
    case measure => simp [intOf]; omega
theorem aEE : fX [1, 4, 5] = gT := by
 funext k
 rw [Bool.eq_iff_iff]
 simp [fX, gT]
 omega
theorem rT (item : ByteArray) (l : List aA) : ∀ k, 0 ≤ aI item l k
 | 0 => Int.le_refl _
 | k + 1 => by
  have := rT item l k; rw [aI]
  split <;> omega
theorem Tryz.fieldKind (o : aA) (w : World) : Sem.run Tryz.prog (Instr.field 50 o.val 3) w = .ok (.int .i64 o.kind) w := by kernel_rfl
set_option maxHeartbeats 10000000 in
theorem X8 (w : World) (B : Nat) (av ao : Option Addr) (nv cv no co : Nat) (xs : List Int) (l : List aA) (item : ByteArray) (h : bP w B ao no l) (hB : B ≤ w.heap.size) (hn : no ≤ 1048576) (hc : aE xs l = true) : Calls Tryz.prog 136 #[.agg #[.slice av nv cv, .slice ao no co], .string item] w fun e w' => e = .returned (.bool (decide (aI item l l.length % 2 = 1))) ∧ Below w.heap.size w w' := by
 have HP := aPo (rT item l l.length)
 have HC := aPo hc
 clear hc
 have bD : Below w.heap.size w (w.alloc (.cells #[.slice av nv cv, .slice ao no co] 27)) := (Below.refl _ w).alloc aPq _
 have HO := aPo (h.below bD hB)
 have HB := aPo bD
 have HX := aPo (bX (Below.refl _ (w.alloc (.cells #[.slice av nv cv, .slice ao no co] 27))))
 have dC : w.heap.size < (w.alloc (.cells #[.slice av nv cv, .slice ao no co] 27)).heap.size := by show _ < (w.heap.push _).size; simp
 clear h bD
 obtain ⟨c0, c1⟩ := pair_cells HX.out
 by_cases hm : aI item l l.length % 2 = 1
 ·have hmb : (aI item l l.length % 2 == 1) = true := by rw [hm]; rfl
  have HD := aPo (decide_eq_true hm); clear hm
  go_enter Tryz.func136, Tryz.ntmps136
  go_wp2_with fail
  generalize w.alloc (.cells #[.slice av nv cv, .slice ao no co] 27) = w0 at HO HB HX dC c0 c1 ⊢; refine (E9 w0 B av ao nv cv no co xs l item HO.out (by omega) hn HC.out).mono ?_
  rintro e w1 ⟨rfl, hb⟩; have cU := aPo (HB.out.trans (hb.mono HB.out.size)); have hp := HP.out; clear hb c0 c1; generalize aI item l l.length = u at hmb hp ⊢; go_wp2
  go_ret
  exact ⟨by rw [HD.out]; rfl, cU.out⟩
 ·have hmb : (aI item l l.length % 2 == 1) = false := by rw [beq_eq_false_iff_ne]; exact hm
  have HD := aPo (decide_eq_false hm); clear hm
  go_enter Tryz.func136, Tryz.ntmps136
  go_wp2_with fail
  generalize w.alloc (.cells #[.slice av nv cv, .slice ao no co] 27) = w0 at HO HB HX dC c0 c1 ⊢; refine (E9 w0 B av ao nv cv no co xs l item HO.out (by omega) hn HC.out).mono ?_
  rintro e w1 ⟨rfl, hb⟩; have cU := aPo (HB.out.trans (hb.mono HB.out.size)); have hp := HP.out; clear hb c0 c1; generalize aI item l l.length = u at hmb hp ⊢; go_wp2
  go_ret
  exact ⟨by rw [HD.out]; rfl, cU.out⟩
set_option maxHeartbeats 10000000 in
theorem aED (w : World) (B : Nat) (av ao : Option Addr) (nv cv no co : Nat) (xs : List Int) (l : List aA) (item : ByteArray) (h : bP w B ao no l) (hB : B ≤ w.heap.size) (hn : no ≤ 1048576) (hc : aE xs l = true) : Calls Tryz.prog 116 #[.agg #[.slice av nv cv, .slice ao no co], .string item] w fun e w' => e = .returned (.bool (decide ((bE gT item l l.length).kind = 4))) ∧ Below w.heap.size w w' := by
 have HC := aPo hc
 clear hc
 have bD : Below w.heap.size w (w.alloc (.cells #[.slice av nv cv, .slice ao no co] 27)) := (Below.refl _ w).alloc aPq _
 have HO := aPo (h.below bD hB)
 have HB := aPo bD
 have HX := aPo (bX (Below.refl _ (w.alloc (.cells #[.slice av nv cv, .slice ao no co] 27))))
 have dC : w.heap.size < (w.alloc (.cells #[.slice av nv cv, .slice ao no co] 27)).heap.size := by show _ < (w.heap.push _).size; simp
 clear h bD
 obtain ⟨c0, c1⟩ := pair_cells HX.out
 by_cases hk : (bE gT item l l.length).kind = 4
 ·have F5 : ((bE gT item l l.length).kind == 4) = true := by rw [hk]; rfl
  have HD := aPo (decide_eq_true hk); clear hk
  go_enter Tryz.func116, Tryz.ntmps116
  go_wp2_with fail
  have rH : (w.alloc (.cells #[.slice av nv cv, .slice ao no co] 27)).heap.size = w.heap.size + 1 := by simp
  generalize w.alloc (.cells #[.slice av nv cv, .slice ao no co] 27) = w0 at HO HB HX dC c0 c1 rH ⊢; have yQ := bX (Below.refl _ (w0.alloc (.cells #[.int .i64 1, .int .i64 4, .int .i64 5] 2))); have F8 : Below w0.heap.size w0 (w0.alloc (.cells #[.int .i64 1, .int .i64 4, .int .i64 5] 2)) := bl; have dD := aPo (HO.out.below F8 (by omega))
  have cU := aPo (HB.out.trans (F8.mono HB.out.size)); have eZ := F8.size; generalize w0.alloc (.cells #[.int .i64 1, .int .i64 4, .int .i64 5] 2) = w1 at yQ dD cU eZ ⊢; rw [rH] at yQ; have W4 := aPo yQ; have HKl : Hid (w.heap.size + 1 < w1.heap.size) := (aPp yQ).1; clear yQ rH F8 c0 c1; refine (aGL w1 w1.heap.size av ao nv cv no co xs l item _ 3 _ [1, 4, 5] (M6 (xs := [1, 4, 5]) W4.out HKl.out rfl) (by omega) (dD.out.more (by omega)) aPq hn HC.out).mono ?_
  rintro e w2 ⟨rfl, hb⟩; have bT := aPo (cU.out.trans (hb.mono cU.out.size)); clear hb W4; rw [aEE]; generalize bE gT item l l.length = o at F5 ⊢; have hfl := Tryz.fieldKind o; go_wp2
  go_ret
  exact ⟨by rw [HD.out]; rfl, bT.out⟩
 ·have F5 : ((bE gT item l l.length).kind == 4) = false := by rw [beq_eq_false_iff_ne]; exact hk
  have HD := aPo (decide_eq_false hk); clear hk
  go_enter Tryz.func116, Tryz.ntmps116
  go_wp2_with fail
  have rH : (w.alloc (.cells #[.slice av nv cv, .slice ao no co] 27)).heap.size = w.heap.size + 1 := by simp
  generalize w.alloc (.cells #[.slice av nv cv, .slice ao no co] 27) = w0 at HO HB HX dC c0 c1 rH ⊢; have yQ := bX (Below.refl _ (w0.alloc (.cells #[.int .i64 1, .int .i64 4, .int .i64 5] 2))); have F8 : Below w0.heap.size w0 (w0.alloc (.cells #[.int .i64 1, .int .i64 4, .int .i64 5] 2)) := bl; have dD := aPo (HO.out.below F8 (by omega))
  have cU := aPo (HB.out.trans (F8.mono HB.out.size)); have eZ := F8.size; generalize w0.alloc (.cells #[.int .i64 1, .int .i64 4, .int .i64 5] 2) = w1 at yQ dD cU eZ ⊢; rw [rH] at yQ; have W4 := aPo yQ; have HKl : Hid (w.heap.size + 1 < w1.heap.size) := (aPp yQ).1; clear yQ rH F8 c0 c1; refine (aGL w1 w1.heap.size av ao nv cv no co xs l item _ 3 _ [1, 4, 5] (M6 (xs := [1, 4, 5]) W4.out HKl.out rfl) (by omega) (dD.out.more (by omega)) aPq hn HC.out).mono ?_
  rintro e w2 ⟨rfl, hb⟩; have bT := aPo (cU.out.trans (hb.mono cU.out.size)); clear hb W4; rw [aEE]; generalize bE gT item l l.length = o at F5 ⊢; have hfl := Tryz.fieldKind o; go_wp2
  go_ret
  exact ⟨by rw [HD.out]; rfl, bT.out⟩
end Go.Proofs.YthkagbnpcjidfaaGreatDoor
