/- Walks and mathematics that several claims share, part 12. -/
import Derived.Test.YthkagbnpcjidfaaGreatDoorGy10
import Derived.Great.BuildSlice
import Derived.Deep.QuietTactic
import Derived.BigQuiet
import Derived.Deep.Cut
import Derived.Test.YthkagbnpcjidfaaGreatDoorGyA
namespace Go.Proofs.YthkagbnpcjidfaaGreatDoor
set_option maxHeartbeats 20000000
set_option maxRecDepth 100000
open Go.RowKit
set_option linter.unusedVariables false
set_option linter.unusedSimpArgs false

def gU (ks : List Int) (kind : Int) : Bool := ks.any (fun k => decide (k = kind))
def I6 (ks : List Int) (kind : Int) (j : Nat) : Bool := gU (ks.take j) kind
theorem aIo {ks : List Int} {kind : Int} {j : Nat} (h : j < ks.length) : I6 ks kind (j + 1) = (I6 ks kind j || decide (ks.getD j 0 = kind)) := by
 unfold I6 gU
 rw [List.take_succ_eq_append_getElem h, List.any_append, List.getD_eq_getElem?_getD, List.getElem?_eq_getElem h]
 simp
theorem aJD (ks : List Int) (kind : Int) : I6 ks kind ks.length = gU ks kind := by unfold I6; rw [List.take_length]
theorem aA.one (o : aA) : o.cells.all (·.oneCell') = true := by simp [aA.cells, Value.oneCell']
theorem Same.more {w w' : World} (h : Same w w') (n : Nat) : Same w (w'.drewN n) := by
 obtain ⟨m, rfl⟩ := h
 exact ⟨m + n, World.drewN_drewN ..⟩
theorem mH.setRes {w w1 : World} {x y z : Array Value} {S T U : TypeId} (h : mH w w1 x y z S T U) (cs : Array Value) : mH w (w1.setRow (w.heap.size + 1 + 1) cs) x y cs S T U :=
 ⟨(setRow_other _ _ _ _ (by omega)).trans h.fst, (setRow_other _ _ _ _ (by omega)).trans h.snd, setRow_heap _ _ _ _ _ _ h.res, gA h.bel (by omega) h.res⟩

theorem aId (w : World) (B : Nat) (av ao : Option Addr) (nv cv no co : Nat) (xs : List Int) (l : List aA) (item : ByteArray) (ak : Option Addr) (nk ck : Nat) (ks : List Int) (hks : Ints w B ak nk ks) (hnk : nk ≤ 5) (h : bS w B ao no l) (hB : B ≤ w.heap.size) (hn : no ≤ 1048576) (hc : aE xs l = true) : Calls Tryz.prog 137 #[.agg #[.slice av nv cv, .slice ao no co], .string item, .slice ak nk ck] w fun e w' => e = .returned (aU (gU ks) item l l.length).val ∧ Below w.heap.size w w' := by
 have HC : Hid (∀ k, k < no → 0 ≤ (l.getD k aA.zero).undos) := fun k hk => by
  obtain ⟨_, _, _, _, _, hok, _, _⟩ := gX hc (i := k) (by rw [h.1]; exact hk)
  exact (T6 hok).1
 have H := aRA (mH.mk0 w #[.slice av nv cv, .slice ao no co] #[.int .i64 0, .int .i64 0, .int .i64 0, .int .i64 0, .string ⟨#[]⟩, .int .i64 0, .int .i64 0, .int .i64 0] #[.int .i64 0, .int .i64 0, .int .i64 0, .int .i64 0, .string ⟨#[]⟩, .int .i64 0, .int .i64 0, .int .i64 0] 27 50 50)
 have HO := aRA h
 have HK := aRA hks
 have HL := aRA h.1
 have yM := aRA hks.1
 clear h hc hks
 go_enter Tryz.func137, Tryz.ntmps137
 go_upto_region 2 with fail
 generalize ((w.alloc (.cells #[.slice av nv cv, .slice ao no co] 27)).alloc (.cells #[.int .i64 0, .int .i64 0, .int .i64 0, .int .i64 0, .string ⟨#[]⟩, .int .i64 0, .int .i64 0, .int .i64 0] 50)).alloc (.cells #[.int .i64 0, .int .i64 0, .int .i64 0, .int .i64 0, .string ⟨#[]⟩, .int .i64 0, .int .i64 0, .int .i64 0] 50) = w0 at H ⊢
 go_wp2_with fail
 go_loopw [8] (fun i wr => ∃ k : Nat, k ≤ no ∧ i = .int .i64 k ∧ Hid (mH w wr #[.slice av nv cv, .slice ao no co] #[.int .i64 0, .int .i64 0, .int .i64 0, .int .i64 0, .string ⟨#[]⟩, .int .i64 0, .int .i64 0, .int .i64 0] (aU (gU ks) item l k).cells 27 50 50)) (fun i _ => no - (intOf i).toNat)
 case atStart => exact ⟨0, Nat.zero_le _, rfl, H⟩
 case round =>
  obtain ⟨k, hk, rfl, HT⟩ := hrel; obtain ⟨c0, c1⟩ := pair_cells HT.out.fst
  by_cases aK : k < no
  rotate_left
  ·obtain rfl : k = no := by omega
   generalize uC : aU (gU ks) item l k = s at HT; have oB := aRA uC; clear uC
   go_wp2_with (first | (refine wpList_load_row rfl 50 (.tmp 7) rfl (w.heap.size + 1 + 1) rfl 50 s.cells (0, 0) _ HT.out.res Tryz.underlying50 rfl s.infoOp ?_) | (refine wpList_store_row rfl 50 (.tmp 6) (.tmp 63) rfl (w.heap.size + 1) s.cells rfl rfl 50 _ HT.out.snd s.infoOp rfl s.one ?_))
   have HXs := setRow_heap wr (w.heap.size + 1) _ s.cells 50 (0, 0) HT.out.snd; exact bodyPost_ret (results_cell_row rfl _ _ _ _ _ _ _ rfl HXs Tryz.underlying50 rfl s.infoOp) rfl ⟨by rw [HL.out, oB.out]; rfl, gA HT.out.bel (by omega) HT.out.snd⟩
  have HOr := aRA (HO.out.more hB); obtain ⟨b, off, rfl, hb, ho⟩ := HO.out.2 k aK; obtain ⟨d0, d1, d2, d3, d4, d5, d6, d7⟩ := ho.kept (HT.out.bel.block b (by omega))
  clear ho; have X9 := HC.out k aK; have HU : Hid (aU (gU ks) item l (k + 1) = if (gU ks (l.getD k aA.zero).kind = true ∧ (l.getD k aA.zero).item = item ∧ (l.getD k aA.zero).undos % 2 = 0) ∧ ((aU (gU ks) item l k).kind = 0 ∨ pB (aU (gU ks) item l k) (l.getD k aA.zero) = true) then l.getD k aA.zero else aU (gU ks) item l k) := rfl; generalize l.getD k aA.zero = x at HU X9 d0 d1 d2 d3 d4 d5 d6 d7
  go_upto_region 6 with fail
  have HX := aRA (bL (Below.refl _ (wr.alloc (.cells #[.int .i64 x.dev, .int .i64 x.seq, .int .i64 x.stamp, .int .i64 x.kind, .string x.item, .int .i64 x.qty, .int .i64 x.level, .int .i64 x.undos] 50)))); have aZ := aRA (HT.out.next ((Below.refl _ wr).alloc aRC (.cells #[.int .i64 x.dev, .int .i64 x.seq, .int .i64 x.stamp, .int .i64 x.kind, .string x.item, .int .i64 x.qty, .int .i64 x.level, .int .i64 x.undos] 50))); have jV : w.heap.size + 1 + 1 < wr.heap.size := (aRB HT.out.res).1; generalize wr.alloc (.cells #[.int .i64 x.dev, .int .i64 x.seq, .int .i64 x.stamp, .int .i64 x.kind, .string x.item, .int .i64 x.qty, .int .i64 x.level, .int .i64 x.undos] 50) = w1 at HX aZ ⊢; generalize wr.heap.size = bo at HX jV ⊢; clear d0 d1 d2 d3 d4 d5 d6 d7 c0 c1 HT
  go_wp2_with fail
  go_loopw [10, 11] (fun t j wi => ∃ q : Nat, q ≤ nk ∧ j = .int .i64 q ∧ t = .bool (I6 ks x.kind q) ∧ Hid (Same w1 wi)) (fun _ j _ => nk - (intOf j).toNat)
  case atStart => exact ⟨0, Nat.zero_le _, rfl, rfl, Same.refl _⟩
  case round =>
   obtain ⟨q, hq, rfl, rfl, L6⟩ := hrel; have hXi := (L6.out.block bo).trans HX.out
   by_cases hqn : q < nk
   ·have d3 := cell_of_row wr bo 3 _ _ _ hXi
    simp only [List.getElem?_toArray, List.getElem?_cons_zero, List.getElem?_cons_succ] at d3
    obtain ⟨bk, aPo, rfl, S4, hkc⟩ := HK.out.2 q hqn; have ck := (World.cell?_of_block (a := ⟨bk, aPo + q, none⟩) ((L6.out.block bk).trans (aZ.out.bel.block bk (by omega)))).trans hkc
    have HS := aRA (aIo (kind := x.kind) (by rw [yM.out]; exact hqn))
    clear hXi hkc; generalize hin : I6 ks x.kind q = bq; have uK := aRA hin; clear hin; cases bq
    ·by_cases e : ks.getD q 0 = x.kind
     ·have HE : Hid (I6 ks x.kind (q + 1) = true) := by show _ = _; rw [HS.out, uK.out, decide_eq_true e]; rfl
      have be : (ks.getD q 0 == x.kind) = true := by rw [e]; exact beq_self_eq_true _
      clear e HS; generalize ks.getD q 0 = y at ck be; go_wp2
      go_quiet (fail)
      go_wp2
      go_roundw
      case rel => exact ⟨q + 1, by omega, by go_num, by rw [HE.out], L6.out.more _⟩
      case measure => simp [intOf]; omega
     ·have HE : Hid (I6 ks x.kind (q + 1) = false) := by show _ = _; rw [HS.out, uK.out, decide_eq_false e]; rfl
      have be : (ks.getD q 0 == x.kind) = false := by rw [beq_eq_false_iff_ne]; exact e
      clear e HS; generalize ks.getD q 0 = y at ck be; go_wp2
      go_quiet (fail)
      go_wp2
      go_roundw
      case rel => exact ⟨q + 1, by omega, by go_num, by rw [HE.out], L6.out.more _⟩
      case measure => simp [intOf]; omega
    ·have HE : Hid (I6 ks x.kind (q + 1) = true) := by show _ = _; rw [HS.out, uK.out]; rfl
     clear HS; go_wp2
     go_quiet (fail)
     go_wp2
     go_roundw
     case rel => exact ⟨q + 1, by omega, by go_num, by rw [HE.out], L6.out.more _⟩
     case measure => simp [intOf]; omega
   obtain rfl : q = nk := by omega
   have P4 : Hid (I6 ks x.kind q = gU ks x.kind) := by show _ = _; rw [← yM.out]; exact aJD _ _
   have aM : Hid (mH w wr #[.slice av nv cv, .slice (some ⟨b, off, none⟩) no co] #[.int .i64 0, .int .i64 0, .int .i64 0, .int .i64 0, .string ⟨#[]⟩, .int .i64 0, .int .i64 0, .int .i64 0] (aU (gU ks) item l k).cells 27 50 50) := ⟨(L6.out.block _).trans aZ.out.fst, (L6.out.block _).trans aZ.out.snd, (L6.out.block _).trans aZ.out.res, aZ.out.bel.trans (L6.out.below _)⟩; have sW : Hid (wr.heap[bo]? = some (.cells x.cells 50 (0, 0))) := hXi; clear hXi aZ HX L6; generalize aU (gU ks) item l k = s at aM HU; rw [P4.out]; generalize gU ks x.kind = kb at HU; clear P4; cases kb
   ·have HE : Hid (aU (gU ks) item l (k + 1) = s) := by show _ = _; rw [HU.out, if_neg (fun h => by simp at h)]
    clear HU; go_wp2
    go_roundw
    case rel => exact ⟨k + 1, by omega, by go_num, by rw [HE.out]; exact aM⟩
    case measure => simp [intOf]; omega
   obtain ⟨o0, o1, o2, o3, o4, o5, o6, o7⟩ := gP sW.out; obtain ⟨s0, s1, s2, s3, s4, s5, s6, s7⟩ := gP aM.out.res
   by_cases hd : x.item = item
   rotate_left
   ·have hbq : (x.item.toList == item.toList) = false := by rw [beq_eq_false_iff_ne]; exact fun h => hd (aAW h)
    have HE : Hid (aU (gU ks) item l (k + 1) = s) := by show _ = _; rw [HU.out, if_neg (fun h => hd h.1.2.1)]
    clear hd HU; go_wp2
    go_roundw
    case rel => exact ⟨k + 1, by omega, by go_num, by rw [HE.out]; exact aM⟩
    case measure => simp [intOf]; omega
   have hbq : (x.item.toList == item.toList) = true := by rw [hd]; exact beq_self_eq_true _
   have HD := aRA hd; clear hd
   go_wp2_with fail
   refine (aEd x.dev x.seq x.stamp x.kind x.item x.qty x.level x.undos _ X9).mono ?_
   rintro e w3 ⟨rfl, bB⟩; have bJ := aRA (aM.out.next bB); have oV := aRA ((bB.block _ (aRB sW.out).1).trans sW.out); clear bB aM sW o0 o1 o2 o3 o4 o5 o6 o7 s0 s1 s2 s3 s4 s5 s6 s7; obtain ⟨o0, o1, o2, o3, o4, o5, o6, o7⟩ := gP oV.out; obtain ⟨s0, s1, s2, s3, s4, s5, s6, s7⟩ := gP bJ.out.res
   by_cases hu : x.undos % 2 = 0
   rotate_left
   ·have hqd : decide (x.undos % 2 = 0) = false := decide_eq_false hu
    have HE : Hid (aU (gU ks) item l (k + 1) = s) := by show _ = _; rw [HU.out, if_neg (fun h => hu h.1.2.2)]
    rw [hqd]; clear hu hqd HU; go_wp2
    go_roundw
    case rel => exact ⟨k + 1, by omega, by go_num, by rw [HE.out]; exact bJ⟩
    case measure => simp [intOf]; omega
   have hqd : decide (x.undos % 2 = 0) = true := decide_eq_true hu; rw [hqd]; have HUu := aRA hu; clear hu hqd
   by_cases hz : s.kind = 0
   ·have bz : (s.kind == 0) = true := by rw [hz]; rfl
    have HE : Hid (aU (gU ks) item l (k + 1) = x) := by show _ = _; rw [HU.out, if_pos ⟨⟨by trivial, HD.out, HUu.out⟩, .inl hz⟩]
    clear hz HU
    go_wp2_with (first | (refine wpList_store_row rfl 50 (.tmp 7) (.tmp 62) rfl (w.heap.size + 1 + 1) x.cells rfl rfl 50 _ bJ.out.res x.infoOp rfl x.one ?_))
    go_roundw
    case rel => exact ⟨k + 1, by omega, by go_num, by rw [HE.out]; exact bJ.out.setRes _⟩
    case measure => simp [intOf]; omega
   have bz : (s.kind == 0) = false := by rw [beq_eq_false_iff_ne]; exact hz
   have HZ := aRA hz; clear hz
   go_wp2_with fail
   refine (aJy s.dev s.seq s.stamp s.kind s.item s.qty s.level s.undos x.dev x.seq x.stamp x.kind x.item x.qty x.level x.undos _).mono ?_
   rintro e w4 ⟨rfl, dY⟩; have iA := aRA (bJ.out.next dY); have Z5 := aRA ((dY.block _ (aRB oV.out).1).trans oV.out); clear dY bJ oV o0 o1 o2 o3 o4 o5 o6 o7 s0 s1 s2 s3 s4 s5 s6 s7; obtain ⟨o0, o1, o2, o3, o4, o5, o6, o7⟩ := gP Z5.out; have HPv : Hid (pB s x = preB s.stamp s.dev s.seq x.stamp x.dev x.seq) := rfl; rcases hp : preB s.stamp s.dev s.seq x.stamp x.dev x.seq with _ | _
   ·have HE : Hid (aU (gU ks) item l (k + 1) = s) := by show _ = _; rw [HU.out, if_neg (fun h => h.2.elim HZ.out (fun h => by rw [HPv.out, hp] at h; cases h))]
    clear hp HU; go_wp2
    go_roundw
    case rel => exact ⟨k + 1, by omega, by go_num, by rw [HE.out]; exact iA⟩
    case measure => simp [intOf]; omega
   ·have HE : Hid (aU (gU ks) item l (k + 1) = x) := by show _ = _; rw [HU.out, if_pos ⟨⟨by trivial, HD.out, HUu.out⟩, .inr (by rw [HPv.out, hp])⟩]
    clear hp HU
    go_wp2_with (first | (refine wpList_store_row rfl 50 (.tmp 7) (.tmp 62) rfl (w.heap.size + 1 + 1) x.cells rfl rfl 50 _ iA.out.res x.infoOp rfl x.one ?_))
    go_roundw
    case rel => exact ⟨k + 1, by omega, by go_num, by rw [HE.out]; exact iA.out.setRes _⟩
    case measure => simp [intOf]; omega

theorem aFP : gU [1, 4, 5] = iC := by
 funext k
 rw [Bool.eq_iff_iff]
 simp [gU, iC]
 omega
theorem sI (item : ByteArray) (l : List aA) : ∀ k, 0 ≤ aG item l k
 | 0 => Int.le_refl _
 | k + 1 => by
  have := sI item l k; rw [aG]
  split <;> omega
theorem Tryz.fieldKind (o : aA) (w : World) : Sem.run Tryz.prog (Instr.field 50 o.val 3) w = .ok (.int .i64 o.kind) w := by kernel_rfl
theorem aAz (w : World) (B : Nat) (av ao : Option Addr) (nv cv no co : Nat) (xs : List Int) (l : List aA) (item : ByteArray) (h : bS w B ao no l) (hB : B ≤ w.heap.size) (hn : no ≤ 1048576) (hc : aE xs l = true) : Calls Tryz.prog 136 #[.agg #[.slice av nv cv, .slice ao no co], .string item] w fun e w' => e = .returned (.bool (decide (aG item l l.length % 2 = 1))) ∧ Below w.heap.size w w' := by
 have HP := aRA (sI item l l.length)
 have HC := aRA hc
 clear hc
 have aW : Below w.heap.size w (w.alloc (.cells #[.slice av nv cv, .slice ao no co] 27)) := (Below.refl _ w).alloc aRC _
 have HO := aRA (h.below aW hB)
 have HB := aRA aW
 have HX := aRA (bL (Below.refl _ (w.alloc (.cells #[.slice av nv cv, .slice ao no co] 27))))
 have dK : w.heap.size < (w.alloc (.cells #[.slice av nv cv, .slice ao no co] 27)).heap.size := by show _ < (w.heap.push _).size; simp
 clear h aW
 obtain ⟨c0, c1⟩ := pair_cells HX.out
 by_cases hm : aG item l l.length % 2 = 1
 ·have hmb : (aG item l l.length % 2 == 1) = true := by rw [hm]; rfl
  have HD := aRA (decide_eq_true hm); clear hm
  go_enter Tryz.func136, Tryz.ntmps136
  go_wp2_with fail
  generalize w.alloc (.cells #[.slice av nv cv, .slice ao no co] 27) = w0 at HO HB HX dK c0 c1 ⊢; refine (R6 w0 B av ao nv cv no co xs l item HO.out (by omega) hn HC.out).mono ?_
  rintro e w1 ⟨rfl, hb⟩; have cO := aRA (HB.out.trans (hb.mono HB.out.size)); have hp := HP.out; clear hb c0 c1; generalize aG item l l.length = u at hmb hp ⊢; go_wp2
  go_ret
  exact ⟨by rw [HD.out]; rfl, cO.out⟩
 ·have hmb : (aG item l l.length % 2 == 1) = false := by rw [beq_eq_false_iff_ne]; exact hm
  have HD := aRA (decide_eq_false hm); clear hm
  go_enter Tryz.func136, Tryz.ntmps136
  go_wp2_with fail
  generalize w.alloc (.cells #[.slice av nv cv, .slice ao no co] 27) = w0 at HO HB HX dK c0 c1 ⊢; refine (R6 w0 B av ao nv cv no co xs l item HO.out (by omega) hn HC.out).mono ?_
  rintro e w1 ⟨rfl, hb⟩; have cO := aRA (HB.out.trans (hb.mono HB.out.size)); have hp := HP.out; clear hb c0 c1; generalize aG item l l.length = u at hmb hp ⊢; go_wp2
  go_ret
  exact ⟨by rw [HD.out]; rfl, cO.out⟩
theorem aFO (w : World) (B : Nat) (av ao : Option Addr) (nv cv no co : Nat) (xs : List Int) (l : List aA) (item : ByteArray) (h : bS w B ao no l) (hB : B ≤ w.heap.size) (hn : no ≤ 1048576) (hc : aE xs l = true) : Calls Tryz.prog 116 #[.agg #[.slice av nv cv, .slice ao no co], .string item] w fun e w' => e = .returned (.bool (decide ((aU iC item l l.length).kind = 4))) ∧ Below w.heap.size w w' := by
 have HC := aRA hc
 clear hc
 have aW : Below w.heap.size w (w.alloc (.cells #[.slice av nv cv, .slice ao no co] 27)) := (Below.refl _ w).alloc aRC _
 have HO := aRA (h.below aW hB)
 have HB := aRA aW
 have HX := aRA (bL (Below.refl _ (w.alloc (.cells #[.slice av nv cv, .slice ao no co] 27))))
 have dK : w.heap.size < (w.alloc (.cells #[.slice av nv cv, .slice ao no co] 27)).heap.size := by show _ < (w.heap.push _).size; simp
 clear h aW
 obtain ⟨c0, c1⟩ := pair_cells HX.out
 by_cases hk : (aU iC item l l.length).kind = 4
 ·have S0 : ((aU iC item l l.length).kind == 4) = true := by rw [hk]; rfl
  have HD := aRA (decide_eq_true hk); clear hk
  go_enter Tryz.func116, Tryz.ntmps116
  go_wp2_with fail
  have uV : (w.alloc (.cells #[.slice av nv cv, .slice ao no co] 27)).heap.size = w.heap.size + 1 := by simp
  generalize w.alloc (.cells #[.slice av nv cv, .slice ao no co] 27) = w0 at HO HB HX dK c0 c1 uV ⊢; have J7 := bL (Below.refl _ (w0.alloc (.cells #[.int .i64 1, .int .i64 4, .int .i64 5] 2))); have S4 : Below w0.heap.size w0 (w0.alloc (.cells #[.int .i64 1, .int .i64 4, .int .i64 5] 2)) := bl; have dL := aRA (HO.out.below S4 (by omega))
  have cO := aRA (HB.out.trans (S4.mono HB.out.size)); have fH := S4.size; generalize w0.alloc (.cells #[.int .i64 1, .int .i64 4, .int .i64 5] 2) = w1 at J7 dL cO fH ⊢; rw [uV] at J7; have HKb := aRA J7; have HKl : Hid (w.heap.size + 1 < w1.heap.size) := (aRB J7).1; clear J7 uV S4 c0 c1; refine (aId w1 w1.heap.size av ao nv cv no co xs l item _ 3 _ [1, 4, 5] (X7 (xs := [1, 4, 5]) HKb.out HKl.out rfl) (by omega) (dL.out.more (by omega)) aRC hn HC.out).mono ?_
  rintro e w2 ⟨rfl, hb⟩; have bK := aRA (cO.out.trans (hb.mono cO.out.size)); clear hb HKb; rw [aFP]; generalize aU iC item l l.length = o at S0 ⊢; have D6 := Tryz.fieldKind o; go_wp2
  go_ret
  exact ⟨by rw [HD.out]; rfl, bK.out⟩
 ·have S0 : ((aU iC item l l.length).kind == 4) = false := by rw [beq_eq_false_iff_ne]; exact hk
  have HD := aRA (decide_eq_false hk); clear hk
  go_enter Tryz.func116, Tryz.ntmps116
  go_wp2_with fail
  have uV : (w.alloc (.cells #[.slice av nv cv, .slice ao no co] 27)).heap.size = w.heap.size + 1 := by simp
  generalize w.alloc (.cells #[.slice av nv cv, .slice ao no co] 27) = w0 at HO HB HX dK c0 c1 uV ⊢; have J7 := bL (Below.refl _ (w0.alloc (.cells #[.int .i64 1, .int .i64 4, .int .i64 5] 2))); have S4 : Below w0.heap.size w0 (w0.alloc (.cells #[.int .i64 1, .int .i64 4, .int .i64 5] 2)) := bl; have dL := aRA (HO.out.below S4 (by omega))
  have cO := aRA (HB.out.trans (S4.mono HB.out.size)); have fH := S4.size; generalize w0.alloc (.cells #[.int .i64 1, .int .i64 4, .int .i64 5] 2) = w1 at J7 dL cO fH ⊢; rw [uV] at J7; have HKb := aRA J7; have HKl : Hid (w.heap.size + 1 < w1.heap.size) := (aRB J7).1; clear J7 uV S4 c0 c1; refine (aId w1 w1.heap.size av ao nv cv no co xs l item _ 3 _ [1, 4, 5] (X7 (xs := [1, 4, 5]) HKb.out HKl.out rfl) (by omega) (dL.out.more (by omega)) aRC hn HC.out).mono ?_
  rintro e w2 ⟨rfl, hb⟩; have bK := aRA (cO.out.trans (hb.mono cO.out.size)); clear hb HKb; rw [aFP]; generalize aU iC item l l.length = o at S0 ⊢; have D6 := Tryz.fieldKind o; go_wp2
  go_ret
  exact ⟨by rw [HD.out]; rfl, bK.out⟩
end Go.Proofs.YthkagbnpcjidfaaGreatDoor
