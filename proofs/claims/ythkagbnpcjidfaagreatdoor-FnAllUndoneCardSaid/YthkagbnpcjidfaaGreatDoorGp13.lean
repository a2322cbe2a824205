/- Walks and mathematics that several claims share, part 13. -/
import Derived.Test.YthkagbnpcjidfaaGreatDoorGp12
import Derived.Great.BuildSlice
import Derived.Deep.QuietTactic
import Derived.BigQuiet
import Derived.Deep.Cut
namespace Go.Proofs.YthkagbnpcjidfaaGreatDoor
set_option maxRecDepth 100000
open Go.RowKit
set_option linter.unusedVariables false
set_option linter.unusedSimpArgs false
def fT (ks : List Int) (kind : Int) : Bool := ks.any (fun k => decide (k = kind))
def yJ (ks : List Int) (kind : Int) (j : Nat) : Bool := fT (ks.take j) kind
theorem aGG {ks : List Int} {kind : Int} {j : Nat} (h : j < ks.length) : yJ ks kind (j + 1) = (yJ ks kind j || decide (ks.getD j 0 = kind)) := by
 unfold yJ fT
 rw [List.take_succ_eq_append_getElem h, List.any_append, List.getD_eq_getElem?_getD, List.getElem?_eq_getElem h]
 simp
theorem aH2 (ks : List Int) (kind : Int) : yJ ks kind ks.length = fT ks kind := by unfold yJ; rw [List.take_length]
theorem aA.one (o : aA) : o.cells.all (·.oneCell') = true := by simp [aA.cells, Value.oneCell']
theorem Same.more {w w' : World} (h : Same w w') (n : Nat) : Same w (w'.drewN n) := by
 obtain ⟨m, rfl⟩ := h
 exact ⟨m + n, World.drewN_drewN ..⟩
theorem kD.setRes {w w1 : World} {x y z : Array Value} {S T U : TypeId} (h : kD w w1 x y z S T U) (cs : Array Value) : kD w (w1.setRow (w.heap.size + 1 + 1) cs) x y cs S T U :=
 ⟨(setRow_other _ _ _ _ (by omega)).trans h.fst, (setRow_other _ _ _ _ (by omega)).trans h.snd, setRow_heap _ _ _ _ _ _ h.res, fB h.bel (by omega) h.res⟩
set_option maxHeartbeats 20000000 in
theorem aGw (w : World) (B : Nat) (av ao : Option Addr) (nv cv no co : Nat) (xs : List Int) (l : List aA) (item : ByteArray) (ak : Option Addr) (nk ck : Nat) (ks : List Int) (hks : Ints w B ak nk ks) (hnk : nk ≤ 5) (h : bK w B ao no l) (hB : B ≤ w.heap.size) (hn : no ≤ 1048576) (hc : aD xs l = true) : Calls Tryz.prog 137 #[.agg #[.slice av nv cv, .slice ao no co], .string item, .slice ak nk ck] w fun e w' => e = .returned (bA (fT ks) item l l.length).val ∧ Below w.heap.size w w' := by
 have HC : Hid (∀ k, k < no → 0 ≤ (l.getD k aA.zero).undos) := fun k hk => by
  obtain ⟨_, _, _, _, _, hok, _, _⟩ := fG hc (i := k) (by rw [h.1]; exact hk)
  exact (G5 hok).1
 have H := aPu (kD.mk0 w #[.slice av nv cv, .slice ao no co] #[.int .i64 0, .int .i64 0, .int .i64 0, .int .i64 0, .string ⟨#[]⟩, .int .i64 0, .int .i64 0, .int .i64 0] #[.int .i64 0, .int .i64 0, .int .i64 0, .int .i64 0, .string ⟨#[]⟩, .int .i64 0, .int .i64 0, .int .i64 0] 27 50 50)
 have HO := aPu h
 have HK := aPu hks
 have HL := aPu h.1
 have qD := aPu hks.1
 clear h hc hks
 go_enter Tryz.func137, Tryz.ntmps137
 go_upto_region 2 with fail
 generalize ((w.alloc (.cells #[.slice av nv cv, .slice ao no co] 27)).alloc (.cells #[.int .i64 0, .int .i64 0, .int .i64 0, .int .i64 0, .string ⟨#[]⟩, .int .i64 0, .int .i64 0, .int .i64 0] 50)).alloc (.cells #[.int .i64 0, .int .i64 0, .int .i64 0, .int .i64 0, .string ⟨#[]⟩, .int .i64 0, .int .i64 0, .int .i64 0] 50) = w0 at H ⊢
 go_wp2_with fail
 go_loopw [8] (fun i wr => ∃ k : Nat, k ≤ no ∧ i = .int .i64 k ∧ Hid (kD w wr #[.slice av nv cv, .slice ao no co] #[.int .i64 0, .int .i64 0, .int .i64 0, .int .i64 0, .string ⟨#[]⟩, .int .i64 0, .int .i64 0, .int .i64 0] (bA (fT ks) item l k).cells 27 50 50)) (fun i _ => no - (intOf i).toNat)
 case atStart => exact ⟨0, Nat.zero_le _, rfl, H⟩
 case round =>
  obtain ⟨k, hk, rfl, HT⟩ := hrel; obtain ⟨c0, c1⟩ := pair_cells HT.out.fst
  by_cases aK : k < no
  rotate_left
  ·obtain rfl : k = no := by omega
   generalize uG : bA (fT ks) item l k = s at HT; have lJ := aPu uG; clear uG
   go_wp2_with (first | (refine wpList_load_row rfl 50 (.tmp 7) rfl (w.heap.size + 1 + 1) rfl 50 s.cells (0, 0) _ HT.out.res Tryz.underlying50 rfl s.infoOp ?_) | (refine wpList_store_row rfl 50 (.tmp 6) (.tmp 63) rfl (w.heap.size + 1) s.cells rfl rfl 50 _ HT.out.snd s.infoOp rfl s.one ?_))
   have HXs := setRow_heap wr (w.heap.size + 1) _ s.cells 50 (0, 0) HT.out.snd; exact bodyPost_ret (results_cell_row rfl _ _ _ _ _ _ _ rfl HXs Tryz.underlying50 rfl s.infoOp) rfl ⟨by rw [HL.out, lJ.out]; rfl, fB HT.out.bel (by omega) HT.out.snd⟩
  have HOr := aPu (HO.out.more hB); obtain ⟨b, off, rfl, hb, ho⟩ := HO.out.2 k aK; obtain ⟨d0, d1, d2, d3, d4, d5, d6, d7⟩ := ho.kept (HT.out.bel.block b (by omega))
  clear ho; have M4 := HC.out k aK; have HU : Hid (bA (fT ks) item l (k + 1) = if (fT ks (l.getD k aA.zero).kind = true ∧ (l.getD k aA.zero).item = item ∧ (l.getD k aA.zero).undos % 2 = 0) ∧ ((bA (fT ks) item l k).kind = 0 ∨ mC (bA (fT ks) item l k) (l.getD k aA.zero) = true) then l.getD k aA.zero else bA (fT ks) item l k) := rfl; generalize l.getD k aA.zero = x at HU M4 d0 d1 d2 d3 d4 d5 d6 d7
  go_upto_region 6 with fail
  have HX := aPu (bE (Below.refl _ (wr.alloc (.cells #[.int .i64 x.dev, .int .i64 x.seq, .int .i64 x.stamp, .int .i64 x.kind, .string x.item, .int .i64 x.qty, .int .i64 x.level, .int .i64 x.undos] 50)))); have aT := aPu (HT.out.next ((Below.refl _ wr).alloc aPw (.cells #[.int .i64 x.dev, .int .i64 x.seq, .int .i64 x.stamp, .int .i64 x.kind, .string x.item, .int .i64 x.qty, .int .i64 x.level, .int .i64 x.undos] 50))); have iQ : w.heap.size + 1 + 1 < wr.heap.size := (aPv HT.out.res).1; generalize wr.alloc (.cells #[.int .i64 x.dev, .int .i64 x.seq, .int .i64 x.stamp, .int .i64 x.kind, .string x.item, .int .i64 x.qty, .int .i64 x.level, .int .i64 x.undos] 50) = w1 at HX aT ⊢; generalize wr.heap.size = bo at HX iQ ⊢; clear d0 d1 d2 d3 d4 d5 d6 d7 c0 c1 HT
  go_wp2_with fail
  go_loopw [10, 11] (fun t j wi => ∃ q : Nat, q ≤ nk ∧ j = .int .i64 q ∧ t = .bool (yJ ks x.kind q) ∧ Hid (Same w1 wi)) (fun _ j _ => nk - (intOf j).toNat)
  case atStart => exact ⟨0, Nat.zero_le _, rfl, rfl, Same.refl _⟩
  case round =>
   obtain ⟨q, hq, rfl, rfl, zE⟩ := hrel; have hXi := (zE.out.block bo).trans HX.out
   by_cases hqn : q < nk
   ·have d3 := cell_of_row wr bo 3 _ _ _ hXi
    simp only [List.getElem?_toArray, List.getElem?_cons_zero, List.getElem?_cons_succ] at d3
    obtain ⟨bk, aNr, rfl, F4, hkc⟩ := HK.out.2 q hqn; have ck := (World.cell?_of_block (a := ⟨bk, aNr + q, none⟩) ((zE.out.block bk).trans (aT.out.bel.block bk (by omega)))).trans hkc
    have HS := aPu (aGG (kind := x.kind) (by rw [qD.out]; exact hqn))
    clear hXi hkc; generalize hin : yJ ks x.kind q = bq; have rB := aPu hin; clear hin; cases bq
    ·by_cases e : ks.getD q 0 = x.kind
     ·have HE : Hid (yJ ks x.kind (q + 1) = true) := by show _ = _; rw [HS.out, rB.out, decide_eq_true e]; rfl
      have be : (ks.getD q 0 == x.kind) = true := by rw [e]; exact beq_self_eq_true _
      clear e HS; generalize ks.getD q 0 = y at ck be; go_wp2
      go_quiet (fail)
      go_wp2
      go_roundw
      case rel => exact ⟨q + 1, by omega, by go_num, by rw [HE.out], zE.out.more _⟩
      case measure => simp [intOf]; omega
     ·have HE : Hid (yJ ks x.kind (q + 1) = false) := by show _ = _; rw [HS.out, rB.out, decide_eq_false e]; rfl
      have be : (ks.getD q 0 == x.kind) = false := by rw [beq_eq_false_iff_ne]; exact e
      clear e HS; generalize ks.getD q 0 = y at ck be; go_wp2
      go_quiet (fail)
      go_wp2
      go_roundw
      case rel => exact ⟨q + 1, by omega, by go_num, by rw [HE.out], zE.out.more _⟩
      case measure => simp [intOf]; omega
    ·have HE : Hid (yJ ks x.kind (q + 1) = true) := by show _ = _; rw [HS.out, rB.out]; rfl
     clear HS; go_wp2
     go_quiet (fail)
     go_wp2
     go_roundw
     case rel => exact ⟨q + 1, by omega, by go_num, by rw [HE.out], zE.out.more _⟩
     case measure => simp [intOf]; omega
   obtain rfl : q = nk := by omega
   have C0 : Hid (yJ ks x.kind q = fT ks x.kind) := by show _ = _; rw [← qD.out]; exact aH2 _ _
   have aJ : Hid (kD w wr #[.slice av nv cv, .slice (some ⟨b, off, none⟩) no co] #[.int .i64 0, .int .i64 0, .int .i64 0, .int .i64 0, .string ⟨#[]⟩, .int .i64 0, .int .i64 0, .int .i64 0] (bA (fT ks) item l k).cells 27 50 50) := ⟨(zE.out.block _).trans aT.out.fst, (zE.out.block _).trans aT.out.snd, (zE.out.block _).trans aT.out.res, aT.out.bel.trans (zE.out.below _)⟩; have nT : Hid (wr.heap[bo]? = some (.cells x.cells 50 (0, 0))) := hXi; clear hXi aT HX zE; generalize bA (fT ks) item l k = s at aJ HU; rw [C0.out]; generalize fT ks x.kind = kb at HU; clear C0; cases kb
   ·have HE : Hid (bA (fT ks) item l (k + 1) = s) := by show _ = _; rw [HU.out, if_neg (fun h => by simp at h)]
    clear HU; go_wp2
    go_roundw
    case rel => exact ⟨k + 1, by omega, by go_num, by rw [HE.out]; exact aJ⟩
    case measure => simp [intOf]; omega
   obtain ⟨o0, o1, o2, o3, o4, o5, o6, o7⟩ := fQ nT.out; obtain ⟨s0, s1, s2, s3, s4, s5, s6, s7⟩ := fQ aJ.out.res
   by_cases hd : x.item = item
   rotate_left
   ·have d8 : (x.item.toList == item.toList) = false := by rw [beq_eq_false_iff_ne]; exact fun h => hd (l8 h)
    have HE : Hid (bA (fT ks) item l (k + 1) = s) := by show _ = _; rw [HU.out, if_neg (fun h => hd h.1.2.1)]
    clear hd HU; go_wp2
    go_roundw
    case rel => exact ⟨k + 1, by omega, by go_num, by rw [HE.out]; exact aJ⟩
    case measure => simp [intOf]; omega
   have d8 : (x.item.toList == item.toList) = true := by rw [hd]; exact beq_self_eq_true _
   have HD := aPu hd; clear hd
   go_wp2_with fail
   refine (aCL x.dev x.seq x.stamp x.kind x.item x.qty x.level x.undos _ M4).mono ?_
   rintro e w3 ⟨rfl, aR⟩; have bD := aPu (aJ.out.next aR); have lU := aPu ((aR.block _ (aPv nT.out).1).trans nT.out); clear aR aJ nT o0 o1 o2 o3 o4 o5 o6 o7 s0 s1 s2 s3 s4 s5 s6 s7; obtain ⟨o0, o1, o2, o3, o4, o5, o6, o7⟩ := fQ lU.out; obtain ⟨s0, s1, s2, s3, s4, s5, s6, s7⟩ := fQ bD.out.res
   by_cases hu : x.undos % 2 = 0
   rotate_left
   ·have hqd : decide (x.undos % 2 = 0) = false := decide_eq_false hu
    have HE : Hid (bA (fT ks) item l (k + 1) = s) := by show _ = _; rw [HU.out, if_neg (fun h => hu h.1.2.2)]
    rw [hqd]; clear hu hqd HU; go_wp2
    go_roundw
    case rel => exact ⟨k + 1, by omega, by go_num, by rw [HE.out]; exact bD⟩
    case measure => simp [intOf]; omega
   have hqd : decide (x.undos % 2 = 0) = true := decide_eq_true hu; rw [hqd]; have HUu := aPu hu; clear hu hqd
   by_cases hz : s.kind = 0
   ·have bz : (s.kind == 0) = true := by rw [hz]; rfl
    have HE : Hid (bA (fT ks) item l (k + 1) = x) := by show _ = _; rw [HU.out, if_pos ⟨⟨by trivial, HD.out, HUu.out⟩, .inl hz⟩]
    clear hz HU
    go_wp2_with (first | (refine wpList_store_row rfl 50 (.tmp 7) (.tmp 62) rfl (w.heap.size + 1 + 1) x.cells rfl rfl 50 _ bD.out.res x.infoOp rfl x.one ?_))
    go_roundw
    case rel => exact ⟨k + 1, by omega, by go_num, by rw [HE.out]; exact bD.out.setRes _⟩
    case measure => simp [intOf]; omega
   have bz : (s.kind == 0) = false := by rw [beq_eq_false_iff_ne]; exact hz
   have HZ := aPu hz; clear hz
   go_wp2_with fail
   refine (aHW s.dev s.seq s.stamp s.kind s.item s.qty s.level s.undos x.dev x.seq x.stamp x.kind x.item x.qty x.level x.undos _).mono ?_
   rintro e w4 ⟨rfl, cW⟩; have fJ := aPu (bD.out.next cW); have N6 := aPu ((cW.block _ (aPv lU.out).1).trans lU.out); clear cW bD lU o0 o1 o2 o3 o4 o5 o6 o7 s0 s1 s2 s3 s4 s5 s6 s7; obtain ⟨o0, o1, o2, o3, o4, o5, o6, o7⟩ := fQ N6.out; have HPv : Hid (mC s x = preB s.stamp s.dev s.seq x.stamp x.dev x.seq) := rfl; rcases hp : preB s.stamp s.dev s.seq x.stamp x.dev x.seq with _ | _
   ·have HE : Hid (bA (fT ks) item l (k + 1) = s) := by show _ = _; rw [HU.out, if_neg (fun h => h.2.elim HZ.out (fun h => by rw [HPv.out, hp] at h; cases h))]
    clear hp HU; go_wp2
    go_roundw
    case rel => exact ⟨k + 1, by omega, by go_num, by rw [HE.out]; exact fJ⟩
    case measure => simp [intOf]; omega
   ·have HE : Hid (bA (fT ks) item l (k + 1) = x) := by show _ = _; rw [HU.out, if_pos ⟨⟨by trivial, HD.out, HUu.out⟩, .inr (by rw [HPv.out, hp])⟩]
    clear hp HU
    go_wp2_with (first | (refine wpList_store_row rfl 50 (.tmp 7) (.tmp 62) rfl (w.heap.size + 1 + 1) x.cells rfl rfl 50 _ fJ.out.res x.infoOp rfl x.one ?_))
    go_roundw
    case rel => exact ⟨k + 1, by omega, by go_num, by rw [HE.out]; exact fJ.out.setRes _⟩
    case measure => simp [intOf]; omega
theorem aEo : fT [1, 4, 5] = gR := by
 funext k
 rw [Bool.eq_iff_iff]
 simp [fT, gR]
 omega
theorem rY (item : ByteArray) (l : List aA) : ∀ k, 0 ≤ aO item l k
 | 0 => Int.le_refl _
 | k + 1 => by
  have := rY item l k; rw [aO]
  split <;> omega
theorem Tryz.fieldKind (o : aA) (w : World) : Sem.run Tryz.prog (Instr.field 50 o.val 3) w = .ok (.int .i64 o.kind) w := by kernel_rfl
set_option maxHeartbeats 10000000 in
theorem X9 (w : World) (B : Nat) (av ao : Option Addr) (nv cv no co : Nat) (xs : List Int) (l : List aA) (item : ByteArray) (h : bK w B ao no l) (hB : B ≤ w.heap.size) (hn : no ≤ 1048576) (hc : aD xs l = true) : Calls Tryz.prog 136 #[.agg #[.slice av nv cv, .slice ao no co], .string item] w fun e w' => e = .returned (.bool (decide (aO item l l.length % 2 = 1))) ∧ Below w.heap.size w w' := by
 have HP := aPu (rY item l l.length)
 have HC := aPu hc
 clear hc
 have bC : Below w.heap.size w (w.alloc (.cells #[.slice av nv cv, .slice ao no co] 27)) := (Below.refl _ w).alloc aPw _
 have HO := aPu (h.below bC hB)
 have HB := aPu bC
 have HX := aPu (bE (Below.refl _ (w.alloc (.cells #[.slice av nv cv, .slice ao no co] 27))))
 have cP : w.heap.size < (w.alloc (.cells #[.slice av nv cv, .slice ao no co] 27)).heap.size := by show _ < (w.heap.push _).size; simp
 clear h bC
 obtain ⟨c0, c1⟩ := pair_cells HX.out
 by_cases hm : aO item l l.length % 2 = 1
 ·have hmb : (aO item l l.length % 2 == 1) = true := by rw [hm]; rfl
  have HD := aPu (decide_eq_true hm); clear hm
  go_enter Tryz.func136, Tryz.ntmps136
  go_wp2_with fail
  generalize w.alloc (.cells #[.slice av nv cv, .slice ao no co] 27) = w0 at HO HB HX cP c0 c1 ⊢; refine (E6 w0 B av ao nv cv no co xs l item HO.out (by omega) hn HC.out).mono ?_
  rintro e w1 ⟨rfl, hb⟩; have cX := aPu (HB.out.trans (hb.mono HB.out.size)); have hp := HP.out; clear hb c0 c1; generalize aO item l l.length = u at hmb hp ⊢; go_wp2
  go_ret
  exact ⟨by rw [HD.out]; rfl, cX.out⟩
 ·have hmb : (aO item l l.length % 2 == 1) = false := by rw [beq_eq_false_iff_ne]; exact hm
  have HD := aPu (decide_eq_false hm); clear hm
  go_enter Tryz.func136, Tryz.ntmps136
  go_wp2_with fail
  generalize w.alloc (.cells #[.slice av nv cv, .slice ao no co] 27) = w0 at HO HB HX cP c0 c1 ⊢; refine (E6 w0 B av ao nv cv no co xs l item HO.out (by omega) hn HC.out).mono ?_
  rintro e w1 ⟨rfl, hb⟩; have cX := aPu (HB.out.trans (hb.mono HB.out.size)); have hp := HP.out; clear hb c0 c1; generalize aO item l l.length = u at hmb hp ⊢; go_wp2
  go_ret
  exact ⟨by rw [HD.out]; rfl, cX.out⟩
set_option maxHeartbeats 10000000 in
theorem aEn (w : World) (B : Nat) (av ao : Option Addr) (nv cv no co : Nat) (xs : List Int) (l : List aA) (item : ByteArray) (h : bK w B ao no l) (hB : B ≤ w.heap.size) (hn : no ≤ 1048576) (hc : aD xs l = true) : Calls Tryz.prog 116 #[.agg #[.slice av nv cv, .slice ao no co], .string item] w fun e w' => e = .returned (.bool (decide ((bA gR item l l.length).kind = 4))) ∧ Below w.heap.size w w' := by
 have HC := aPu hc
 clear hc
 have bC : Below w.heap.size w (w.alloc (.cells #[.slice av nv cv, .slice ao no co] 27)) := (Below.refl _ w).alloc aPw _
 have HO := aPu (h.below bC hB)
 have HB := aPu bC
 have HX := aPu (bE (Below.refl _ (w.alloc (.cells #[.slice av nv cv, .slice ao no co] 27))))
 have cP : w.heap.size < (w.alloc (.cells #[.slice av nv cv, .slice ao no co] 27)).heap.size := by show _ < (w.heap.push _).size; simp
 clear h bC
 obtain ⟨c0, c1⟩ := pair_cells HX.out
 by_cases hk : (bA gR item l l.length).kind = 4
 ·have F1 : ((bA gR item l l.length).kind == 4) = true := by rw [hk]; rfl
  have HD := aPu (decide_eq_true hk); clear hk
  go_enter Tryz.func116, Tryz.ntmps116
  go_wp2_with fail
  have qG : (w.alloc (.cells #[.slice av nv cv, .slice ao no co] 27)).heap.size = w.heap.size + 1 := by simp
  generalize w.alloc (.cells #[.slice av nv cv, .slice ao no co] 27) = w0 at HO HB HX cP c0 c1 qG ⊢; have yP := bE (Below.refl _ (w0.alloc (.cells #[.int .i64 1, .int .i64 4, .int .i64 5] 2))); have F4 : Below w0.heap.size w0 (w0.alloc (.cells #[.int .i64 1, .int .i64 4, .int .i64 5] 2)) := bl; have cI := aPu (HO.out.below F4 (by omega))
  have cX := aPu (HB.out.trans (F4.mono HB.out.size)); have dZ := F4.size; generalize w0.alloc (.cells #[.int .i64 1, .int .i64 4, .int .i64 5] 2) = w1 at yP cI cX dZ ⊢; rw [qG] at yP; have W4 := aPu yP; have HKl : Hid (w.heap.size + 1 < w1.heap.size) := (aPv yP).1; clear yP qG F4 c0 c1; refine (aGw w1 w1.heap.size av ao nv cv no co xs l item _ 3 _ [1, 4, 5] (M2 (xs := [1, 4, 5]) W4.out HKl.out rfl) (by omega) (cI.out.more (by omega)) aPw hn HC.out).mono ?_
  rintro e w2 ⟨rfl, hb⟩; have bP := aPu (cX.out.trans (hb.mono cX.out.size)); clear hb W4; rw [aEo]; generalize bA gR item l l.length = o at F1 ⊢; have hfl := Tryz.fieldKind o; go_wp2
  go_ret
  exact ⟨by rw [HD.out]; rfl, bP.out⟩
 ·have F1 : ((bA gR item l l.length).kind == 4) = false := by rw [beq_eq_false_iff_ne]; exact hk
  have HD := aPu (decide_eq_false hk); clear hk
  go_enter Tryz.func116, Tryz.ntmps116
  go_wp2_with fail
  have qG : (w.alloc (.cells #[.slice av nv cv, .slice ao no co] 27)).heap.size = w.heap.size + 1 := by simp
  generalize w.alloc (.cells #[.slice av nv cv, .slice ao no co] 27) = w0 at HO HB HX cP c0 c1 qG ⊢; have yP := bE (Below.refl _ (w0.alloc (.cells #[.int .i64 1, .int .i64 4, .int .i64 5] 2))); have F4 : Below w0.heap.size w0 (w0.alloc (.cells #[.int .i64 1, .int .i64 4, .int .i64 5] 2)) := bl; have cI := aPu (HO.out.below F4 (by omega))
  have cX := aPu (HB.out.trans (F4.mono HB.out.size)); have dZ := F4.size; generalize w0.alloc (.cells #[.int .i64 1, .int .i64 4, .int .i64 5] 2) = w1 at yP cI cX dZ ⊢; rw [qG] at yP; have W4 := aPu yP; have HKl : Hid (w.heap.size + 1 < w1.heap.size) := (aPv yP).1; clear yP qG F4 c0 c1; refine (aGw w1 w1.heap.size av ao nv cv no co xs l item _ 3 _ [1, 4, 5] (M2 (xs := [1, 4, 5]) W4.out HKl.out rfl) (by omega) (cI.out.more (by omega)) aPw hn HC.out).mono ?_
  rintro e w2 ⟨rfl, hb⟩; have bP := aPu (cX.out.trans (hb.mono cX.out.size)); clear hb W4; rw [aEo]; generalize bA gR item l l.length = o at F1 ⊢; have hfl := Tryz.fieldKind o; go_wp2
  go_ret
  exact ⟨by rw [HD.out]; rfl, bP.out⟩
end Go.Proofs.YthkagbnpcjidfaaGreatDoor
