/- Walks and mathematics that several claims share, part 41. -/
import Derived.Test.YtjokbaaommicmaaGreatDoorGb40
import Derived.Deep.CutRange
import Derived.Deep.CutBlock
import Derived.Test.YtjokbaaommicmaaGreatDoorGbA
namespace Go.Proofs.YtjokbaaommicmaaGreatDoor
set_option maxRecDepth 100000
open Go.RowKit
set_option linter.unusedVariables false

/-- A slice of texts as a walk reads it. -/
def StrsI (w : World) (B : Nat) (a : Option Addr) (n : Nat) (l : List ByteArray) : Prop :=
 l.length = n ∧ ∀ i, i < n → ∃ b off, a = some ⟨b, off, none⟩ ∧ b < B ∧ w.cell? ⟨b, off + i, none⟩ = some (.string (l.getD i ⟨#[]⟩))
theorem infoStrI : (Tryz.prog.info? 9).map (fun i => (i.zero, i.size, i.bytes)) = some (some (.string ⟨#[]⟩), 1, 16) := by kernel_rfl
theorem appStrs (w : World) (base : Nat) (v : Value) (n : Nat) (xs : List ByteArray) (hown : w.ownsRow base 9 1 v n (xs.map Value.string)) (B : Nat) (a : Option Addr) (m c : Nat) (ys : List ByteArray) (h : StrsI w B a m ys) (hc : a = none → c = 0) (hn : n + m ≤ 4194304) (hbase : base ≤ w.heap.size) :
  ∃ v' w', (Builtin.append_ #[132, 132] 132 #[v, .slice a m c]).run Tryz.prog w = .ok v' w' ∧ w'.ownsRow base 9 1 v' (n + m) ((xs ++ ys).map Value.string) ∧ w.grownBy w' v.ownBlock := by
 obtain ⟨i0, hi, hz0, hz1, hz2⟩ := info_parts infoStrI
 have hl : ys.length = m := h.1
 rcases a with _ | x
 ·have hm : m = 0 := by
   rcases Nat.eq_zero_or_pos m with g | g
   ·exact g
   ·obtain ⟨_, _, e, _⟩ := h.2 0 g; cases e
  subst hm
  have : ys = [] := List.eq_nil_of_length_eq_zero hl
  subst this
  rw [hc rfl]
  exact ⟨v, w, run_append_owned_none (P := Tryz.prog) w base 132 132 9 i0 1 Tryz.underlying132 hi v n _ hown, by simpa using hown, World.grownBy.refl _ _⟩
 ·have hcells : ∀ j u, (ys.map Value.string)[j]? = some u → w.cell? (x.add j) = some u := by
   intro j u hu
   have hj : j < ys.length := by
    rcases Nat.lt_or_ge j ys.length with g | g
    ·exact g
    ·rw [List.getElem?_eq_none (by simpa using g)] at hu; cases hu
   obtain ⟨b', off', e, _, hcc⟩ := h.2 j (by omega)
   injection e with e
   subst e
   rw [add_at, hcc]
   rw [List.getElem?_map, List.getElem?_eq_getElem hj] at hu
   rw [← hu, List.getD_eq_getElem?_getD, List.getElem?_eq_getElem hj]
   rfl
  obtain ⟨v', w', h1, h2, h3, _⟩ := run_append_own (P := Tryz.prog) w base 132 132 9 i0 (.string ⟨#[]⟩) 1 16 Tryz.underlying132 hi hz0 hz1 hz2 rfl (by decide) v n _ hown x m c (ys.map Value.string) (by rw [List.length_map, hl]; omega) hcells (by intro u hu; rw [List.mem_map] at hu; obtain ⟨z, _, rfl⟩ := hu; rfl) (by unfold maxLen; omega) (by omega) hbase
  exact ⟨v', w', h1, by rw [List.map_append]; exact h2, h3⟩
/-- A row of the call's own, as a walk reads it. -/
theorem strsI_of_row {w : World} {base n c : Nat} {a : Option Addr} {L : List ByteArray} (h : w.ownsRow base 9 1 (.slice a n c) n (L.map Value.string)) : StrsI w w.heap.size a n L := by
 have hl : L.length = n := by have := h.1; simpa using this
 refine ⟨hl, fun i hi => ?_⟩
 rcases h.2 with ⟨_, e2⟩ | ⟨g, cap, cur, e, hb, hg, hnc, _, hcs, ht⟩
 ·omega
 ·injection e with e1 e2 e3
  subst e1
  refine ⟨g, 0, rfl, (Array.getElem?_eq_some_iff.1 hg).1, ?_⟩
  rw [cell_of_row _ _ _ _ _ _ hg]
  have h2 : (cur.toList.take (n * 1))[i]? = (L.map Value.string)[i]? := by rw [ht]
  rw [Nat.mul_one, List.getElem?_take_of_lt hi, List.getElem?_map, List.getElem?_eq_getElem (by omega : i < L.length)] at h2
  rw [Nat.zero_add, ← Array.getElem?_toList, h2, List.getD_eq_getElem?_getD, List.getElem?_eq_getElem (by omega)]
  rfl
def ItmP (l : List OpV) (w : World) (e : Ending) (w' : World) : Prop :=
 ∃ g c L, e = .returned (.slice (some ⟨g, 0, none⟩) L.length c) ∧ L.length ≤ l.length ∧ (∀ s ∈ L, ∃ i, i < l.length ∧ s = (atOp l i).item) ∧ StrsI w' w'.heap.size (some ⟨g, 0, none⟩) L.length L ∧ Below w.heap.size w w'
theorem one_strI (w : World) (s : ByteArray) : StrsI (w.alloc (.cells #[.string s] 9)) (w.heap.size + 1) (some ⟨w.heap.size, 0, none⟩) 1 [s] := by
 refine ⟨rfl, fun i hi => ⟨w.heap.size, 0, rfl, by omega, ?_⟩⟩
 obtain rfl : i = 0 := by omega
 rw [cell_of_row _ _ _ _ _ _ (heap_alloc_new w _)]
 rfl
theorem own_wide {w : World} {base base' n size : Nat} {e : TypeId} {v : Value} {xs : List Value} (h : w.ownsRow base e size v n xs) (hb : base' ≤ base) : w.ownsRow base' e size v n xs := by
 refine ⟨h.1, ?_⟩
 rcases h.2 with h2 | ⟨g, cap, cur, e1, h3, r⟩
 ·exact .inl h2
 ·exact .inr ⟨g, cap, cur, e1, by omega, r⟩
theorem StrsI.below {w w' : World} {B B' : Nat} {a : Option Addr} {n : Nat} {l : List ByteArray} (h : StrsI w B a n l) (hb : Below B' w w') (hB : B ≤ B') : StrsI w' B a n l :=
 ⟨h.1, fun i hi => by
  obtain ⟨b, off, e, hbb, hc⟩ := h.2 i hi
  exact ⟨b, off, e, hbb, (World.cell?_of_block (a := ⟨b, off + i, none⟩) (hb.block b (by omega))).trans hc⟩⟩
theorem StrsI.more {w : World} {B B' : Nat} {a : Option Addr} {n : Nat} {l : List ByteArray} (h : StrsI w B a n l) (hB : B ≤ B') : StrsI w B' a n l :=
 ⟨h.1, fun i hi => by
  obtain ⟨b, off, e, hbb, hc⟩ := h.2 i hi
  exact ⟨b, off, e, by omega, hc⟩⟩
theorem StrsI.take {w : World} {B : Nat} {a : Option Addr} {n k : Nat} {l : List ByteArray} (h : StrsI w B a n l) (hk : k ≤ n) : StrsI w B a k (l.take k) :=
 ⟨by rw [List.length_take, h.1]; omega, fun i hi => by
  obtain ⟨b, off, e, hbb, hc⟩ := h.2 i (by omega)
  refine ⟨b, off, e, hbb, ?_⟩
  rw [hc, List.getD_eq_getElem?_getD, List.getD_eq_getElem?_getD, List.getElem?_take_of_lt hi]⟩
theorem StrsI.drop {w : World} {B g : Nat} {n k : Nat} {l : List ByteArray} (h : StrsI w B (some ⟨g, 0, none⟩) n l) (hk : k ≤ n) : StrsI w B (some ⟨g, k, none⟩) (n - k) (l.drop k) :=
 ⟨by rw [List.length_drop, h.1], fun i hi => by
  obtain ⟨b, off, e, hbb, hc⟩ := h.2 (k + i) (by omega)
  injection e with e
  injection e with e1 e2
  subst e1 e2
  refine ⟨g, k, rfl, hbb, ?_⟩
  rw [Nat.zero_add] at hc
  rw [hc, List.getD_eq_getElem?_getD, List.getD_eq_getElem?_getD, List.getElem?_drop]⟩
set_option maxHeartbeats 40000000 in
theorem l5Items (w : World) (B : Nat) (av ao : Option Addr) (nv cv no co : Nat) (xs : List Int) (l : List OpV) (h : Ops w B ao no l) (hB : B ≤ w.heap.size) (hn : no ≤ 1048576) (hc : cartB xs l = true) :
  Calls Tryz.prog 91 #[.agg #[.slice av nv cv, .slice ao no co]] w (ItmP l w) := by
 obtain rfl := h.1
 have HC := Lib.hid hc
 clear hc
 have hb0 : Below w.heap.size w (w.alloc (.cells #[.slice av nv cv, .slice ao l.length co] 32)) := (Below.refl _ w).alloc (Nat.le_refl _) _
 have HO := Lib.hid (h.below hb0 hB)
 have HB := Lib.hid hb0
 have HX := Lib.hid (boxAt (Below.refl _ (w.alloc (.cells #[.slice av nv cv, .slice ao l.length co] 32))))
 have hsz : (w.alloc (.cells #[.slice av nv cv, .slice ao l.length co] 32)).heap.size = w.heap.size + 1 := by show (w.heap.push _).size = _; simp
 clear h hb0
 go_enter Tryz.func91, Tryz.ntmps91
 go_wp2
 obtain ⟨w0, hw0⟩ : ∃ w0, w0 = w.alloc (.cells #[.slice av nv cv, .slice ao l.length co] 32) := ⟨_, rfl⟩
 rw [← hw0] at HO HB HX hsz ⊢
 clear hw0
 have hr0 := World.ownsRow_made (e := 9) (size := 1) (base := w.heap.size + 1) w0 #[] 0 (by omega) (by unfold maxLen; omega) rfl
 rw [hsz] at hr0
 have HR0 := Lib.hid hr0
 have HW0 : Hid (Below (w.heap.size + 1) w0 (w0.alloc (.cells #[] 9))) := (Below.refl _ _).alloc (by omega) _
 have hsz1 : w0.heap.size ≤ w.heap.size + 1 := by omega
 have hsz2 : w.heap.size + 1 ≤ w0.heap.size := by omega
 clear hsz hr0
 go_loopw [3, 4] (fun v i wr => ∃ (k : Nat) (L : List ByteArray) (g c : Nat), k ≤ l.length ∧ i = .int .i64 (k : Int) ∧ v = .slice (some ⟨g, 0, none⟩) L.length c ∧ Hid (L.length ≤ k) ∧ Hid (∀ s ∈ L, ∃ i, i < l.length ∧ s = (atOp l i).item) ∧ Hid (wr.ownsRow (w.heap.size + 1) 9 1 (.slice (some ⟨g, 0, none⟩) L.length c) L.length (L.map Value.string)) ∧ Hid (Below (w.heap.size + 1) w0 wr)) (fun _ i _ => l.length - (intOf i).toNat)
 case atStart => exact ⟨0, [], _, _, Nat.zero_le _, rfl, rfl, Nat.le_refl _, (fun s hs => by cases hs), HR0.out, HW0.out⟩
 case round =>
  obtain ⟨k, L, g, c, hk, rfl, rfl, HLk, HLs, HR, HBr⟩ := hrel
  have hLk : L.length ≤ l.length := Nat.le_trans HLk.out hk
  have hbs := HBr.out.size
  have hcap : L.length ≤ c := (caps_of_row HR.out).1
  have HBx := Lib.hid ((HBr.out.block w.heap.size (by omega)).trans HX.out)
  obtain ⟨c0, c1⟩ := pair_cells HBx.out
  by_cases hlt : k < l.length
  ·obtain ⟨b, off, rfl, hb, ho⟩ := (HO.out.below HBr.out (by omega)).2 k hlt
   have hki : (k : Int) < (l.length : Int) := by omega
   have c4 := ho.2.2.2.2.1
   obtain ⟨s, hs⟩ : ∃ s, s = (l.getD k OpV.zero).item := ⟨_, rfl⟩
   rw [← hs] at c4
   have HSe : Hid (s = (atOp l k).item) := hs
   have HStr := Lib.hid (strsI_of_row HR.out)
   clear ho hs
   go_upto_block 2 with fail
   clear c4 c0 c1
   go_cut [6] from 9 to 67 (fun j wx => wx = wr ∧ ∃ i : Nat, i ≤ L.length ∧ j = .int .i64 (i : Int))
   case first =>
    go_wp2
    go_loop [6] (fun j => ∃ i : Nat, i ≤ L.length ∧ j = .int .i64 (i : Int)) (fun j => L.length - (intOf j).toNat)
    case atStart => exact ⟨0, Nat.zero_le _, rfl⟩
    case round =>
     obtain ⟨i, hi, rfl⟩ := hrel
     by_cases hil : i < L.length
     ·obtain ⟨b2, o2, e2, hb2, hcc⟩ := HStr.out.2 i hil
      injection e2 with e2
      injection e2 with e3 e4
      subst e3 e4
      rw [Nat.zero_add] at hcc
      obtain ⟨x, hx⟩ : ∃ x, x = L.getD i ⟨#[]⟩ := ⟨_, rfl⟩
      rw [← hx] at hcc
      have hii : (i : Int) < (L.length : Int) := by omega
      clear hx
      go_wp2
      ·exact ⟨⟨i + 1, by omega, by go_num⟩, by simp [intOf]; omega⟩
      ·go_meet
       exact ⟨rfl, i, hi, rfl⟩
     ·go_wp2
      go_meet
      exact ⟨rfl, i, hi, rfl⟩
   case rest =>
    obtain ⟨hwc, i, hi, rfl⟩ := hcut
    subst hwc
    obtain ⟨c0, c1⟩ := pair_cells HBx.out
    go_upto_region 9 with fail
    go_cut [53] from 9 to 67 (fun bv wx => (∃ bb : Bool, bv = .bool bb) ∧ Hid (Below wc.heap.size wc wx))
    case first =>
     by_cases hil : i < L.length
     ·obtain ⟨b2, o2, e2, hb2, hcc⟩ := HStr.out.2 i hil
      injection e2 with e2
      injection e2 with e3 e4
      subst e3 e4
      rw [Nat.zero_add] at hcc
      obtain ⟨x, hx⟩ : ∃ x, x = L.getD i ⟨#[]⟩ := ⟨_, rfl⟩
      rw [← hx] at hcc
      have hii : (i : Int) < (L.length : Int) := by omega
      clear hx
      by_cases hxs : (x.toList == s.toList) = true
      ·go_wp2
       go_meet
       exact ⟨⟨_, rfl⟩, Below.refl _ _⟩
      ·have hxs' : (x.toList == s.toList) = false := by simpa using hxs
       clear hxs
       go_wp2_with fail
       refine (l5There wc B av _ nv cv l.length co xs l s (HO.out.below HBr.out (by omega)) (by omega) hn HC.out).mono ?_
       rintro e w2 ⟨rfl, hb3⟩
       go_wp2
       all_goals (go_meet; exact ⟨⟨_, rfl⟩, hb3⟩)
     ·go_wp2_with fail
      refine (l5There wc B av _ nv cv l.length co xs l s (HO.out.below HBr.out (by omega)) (by omega) hn HC.out).mono ?_
      rintro e w2 ⟨rfl, hb3⟩
      go_wp2
      all_goals (go_meet; exact ⟨⟨_, rfl⟩, hb3⟩)
    case rest =>
     obtain ⟨⟨bb, rfl⟩, HW⟩ := hcut
     clear c0 c1
     have hw2 := HW.out.size
     have HB2 := Lib.hid (HBr.out.trans (HW.out.mono (by omega)))
     have HR2 : Hid (wc.ownsRow (w.heap.size + 1) 9 1 (.slice (some ⟨g, 0, none⟩) L.length c) L.length (L.map Value.string)) := HR.out.kept (row := none) ⟨HW.out.os, HW.out.tape, HW.out.output, HW.out.size, fun j hj _ => HW.out.block j hj⟩ (.inr (by simp [Value.ownBlock]))
     have HS2 := Lib.hid (strsI_of_row HR2.out)
     cases bb
     ·have hi63 : i ≤ c := by omega
      have hb0 : Below wc.heap.size wc (wc.alloc (.cells #[] 9)) := bl
      have hr0 : (wc.alloc (.cells #[] 9)).ownsRow wc.heap.size 9 1 (.slice (some ⟨wc.heap.size, 0, none⟩) 0 0) 0 (([] : List ByteArray).map Value.string) := World.ownsRow_made wc #[] 0 (Nat.le_refl _) (by unfold maxLen; omega) rfl
      have hTk := (HS2.out.below hb0 (Nat.le_refl _)).take hi
      go_upto_region 10 with fail
      by_cases hci : i = c
      ·obtain rfl : i = c := hci
       have hiL : L.length ≤ i := by omega
       obtain ⟨v1, w3, hrun1, hr1, hgr1⟩ := appStrs _ wc.heap.size _ 0 [] hr0 (wc.heap.size) (some ⟨g, 0, none⟩) i i (L.take i) hTk (fun h => by cases h) (by omega) hb0.size
       have hr1' : w3.ownsRow wc.heap.size 9 1 v1 i ((L.take i).map Value.string) := by simpa using hr1
       have hB3 : Below wc.heap.size wc w3 := hb0.grown hgr1 hb0.size (fun j hj => (hr0.lt j hj).1)
       clear hr1 hgr1 hr0
       have hbA : Below wc.heap.size w3 (w3.alloc (.cells #[.string s] 9)) := (Below.refl _ _).alloc hB3.size _
       have hOne : StrsI (w3.alloc (.cells #[.string s] 9)) (w3.heap.size + 1) (some ⟨w3.heap.size, 0, none⟩) 1 [s] := one_strI w3 s
       have hrA := hr1'.alloc (.cells #[.string s] 9)
       obtain ⟨v2, w4, hrun2, hr2, hgr2⟩ := appStrs _ wc.heap.size v1 i (L.take i) hrA (w3.heap.size + 1) (some ⟨w3.heap.size, 0, none⟩) 1 1 [s] hOne (fun h => by cases h) (by omega) (Nat.le_trans hB3.size hbA.size)
       have hB4 : Below wc.heap.size wc w4 := hB3.trans (hbA.grown hgr2 (Nat.le_trans hB3.size hbA.size) (fun j hj => (hrA.lt j hj).1))
       have hSr : StrsI w4 wc.heap.size (some ⟨g, 0, none⟩) 0 (L.drop i) := ⟨by rw [List.length_drop]; omega, fun j hj => absurd hj (by omega)⟩
       obtain ⟨v3, w5, hrun3, hr3, hgr3⟩ := appStrs w4 wc.heap.size v2 (i + 1) _ hr2 wc.heap.size (some ⟨g, 0, none⟩) 0 0 (L.drop i) hSr (fun h => by cases h) (by omega) hB4.size
       have hB5 : Below wc.heap.size wc w5 := hB4.grown hgr3 hB4.size (fun j hj => (hr2.lt j hj).1)
       obtain ⟨g5, c5, rfl⟩ : ∃ g5 c5, v3 = .slice (some ⟨g5, 0, none⟩) (i + 1 + 0) c5 := by
        rcases hr3.2 with ⟨_, e2⟩ | ⟨g5, c5, _, e2, _⟩
        ·omega
        ·exact ⟨g5, c5, e2⟩
       have hll : (L.take i ++ [s] ++ L.drop i).length = i + 1 + 0 := by simp; omega
       have HR5 : Hid (w5.ownsRow (w.heap.size + 1) 9 1 (.slice (some ⟨g5, 0, none⟩) (i + 1 + 0) c5) (i + 1 + 0) ((L.take i ++ [s] ++ L.drop i).map Value.string)) := own_wide hr3 (by omega)
       have HB5 : Hid (Below (w.heap.size + 1) w0 w5) := HB2.out.trans (hB5.mono (by omega))
       have HL5 : Hid ((L.take i ++ [s] ++ L.drop i).length ≤ k + 1) := by have := HLk.out; show _ ≤ _; rw [hll]; omega
       have HS5 : Hid (∀ q ∈ L.take i ++ [s] ++ L.drop i, ∃ i, i < l.length ∧ q = (atOp l i).item) := by
        intro q hq
        simp only [List.mem_append, List.mem_singleton] at hq
        rcases hq with (hq | rfl) | hq
        ·exact HLs.out q (List.mem_of_mem_take hq)
        ·exact ⟨k, hlt, HSe.out⟩
        ·exact HLs.out q (List.mem_of_mem_drop hq)
       clear hr1' hr2 hr3 hgr2 hgr3 hB3 hB4 hB5 hbA hOne hrA hSr
       go_upto_region 11 with (at_builtin; refine wpListApp rfl _ _ _ rfl _ _ rfl rfl hrun1 ?_)
       go_upto_region 12 with (at_builtin; refine wpListApp rfl _ _ _ rfl _ _ rfl rfl hrun2 ?_)
       go_upto_region 4 with (at_builtin; refine wpListApp rfl _ _ _ rfl _ _ rfl rfl hrun3 ?_)
       go_wp2
       go_roundw
       case rel => exact ⟨k + 1, L.take i ++ [s] ++ L.drop i, g5, c5, by omega, by go_num, by first | rw [hll] | (rw [hll]; rfl), HL5, HS5, by rw [hll]; exact HR5, HB5⟩
       case measure => simp [intOf]; omega
      ·have hcc : ¬ (c : Int) = (i : Int) := by omega
       obtain ⟨v1, w3, hrun1, hr1, hgr1⟩ := appStrs _ wc.heap.size _ 0 [] hr0 (wc.heap.size) (some ⟨g, 0, none⟩) i c (L.take i) hTk (fun h => by cases h) (by omega) hb0.size
       have hr1' : w3.ownsRow wc.heap.size 9 1 v1 i ((L.take i).map Value.string) := by simpa using hr1
       have hB3 : Below wc.heap.size wc w3 := hb0.grown hgr1 hb0.size (fun j hj => (hr0.lt j hj).1)
       clear hr1 hgr1 hr0
       have hbA : Below wc.heap.size w3 (w3.alloc (.cells #[.string s] 9)) := (Below.refl _ _).alloc hB3.size _
       have hOne : StrsI (w3.alloc (.cells #[.string s] 9)) (w3.heap.size + 1) (some ⟨w3.heap.size, 0, none⟩) 1 [s] := one_strI w3 s
       have hrA := hr1'.alloc (.cells #[.string s] 9)
       obtain ⟨v2, w4, hrun2, hr2, hgr2⟩ := appStrs _ wc.heap.size v1 i (L.take i) hrA (w3.heap.size + 1) (some ⟨w3.heap.size, 0, none⟩) 1 1 [s] hOne (fun h => by cases h) (by omega) (Nat.le_trans hB3.size hbA.size)
       have hB4 : Below wc.heap.size wc w4 := hB3.trans (hbA.grown hgr2 (Nat.le_trans hB3.size hbA.size) (fun j hj => (hrA.lt j hj).1))
       have hSr : StrsI w4 wc.heap.size (some ⟨g, i, none⟩) (L.length - i) (L.drop i) := ((HS2.out.below hB4 (Nat.le_refl _)).drop hi)
       obtain ⟨v3, w5, hrun3, hr3, hgr3⟩ := appStrs w4 wc.heap.size v2 (i + 1) _ hr2 wc.heap.size (some ⟨g, i, none⟩) (L.length - i) (c - i) (L.drop i) hSr (fun h => by cases h) (by omega) hB4.size
       have hB5 : Below wc.heap.size wc w5 := hB4.grown hgr3 hB4.size (fun j hj => (hr2.lt j hj).1)
       obtain ⟨g5, c5, rfl⟩ : ∃ g5 c5, v3 = .slice (some ⟨g5, 0, none⟩) (i + 1 + (L.length - i)) c5 := by
        rcases hr3.2 with ⟨_, e2⟩ | ⟨g5, c5, _, e2, _⟩
        ·omega
        ·exact ⟨g5, c5, e2⟩
       have hll : (L.take i ++ [s] ++ L.drop i).length = i + 1 + (L.length - i) := by simp; omega
       have HR5 : Hid (w5.ownsRow (w.heap.size + 1) 9 1 (.slice (some ⟨g5, 0, none⟩) (i + 1 + (L.length - i)) c5) (i + 1 + (L.length - i)) ((L.take i ++ [s] ++ L.drop i).map Value.string)) := own_wide hr3 (by omega)
       have HB5 : Hid (Below (w.heap.size + 1) w0 w5) := HB2.out.trans (hB5.mono (by omega))
       have HL5 : Hid ((L.take i ++ [s] ++ L.drop i).length ≤ k + 1) := by have := HLk.out; show _ ≤ _; rw [hll]; omega
       have HS5 : Hid (∀ q ∈ L.take i ++ [s] ++ L.drop i, ∃ i, i < l.length ∧ q = (atOp l i).item) := by
        intro q hq
        simp only [List.mem_append, List.mem_singleton] at hq
        rcases hq with (hq | rfl) | hq
        ·exact HLs.out q (List.mem_of_mem_take hq)
        ·exact ⟨k, hlt, HSe.out⟩
        ·exact HLs.out q (List.mem_of_mem_drop hq)
       clear hr1' hr2 hr3 hgr2 hgr3 hB3 hB4 hB5 hbA hOne hrA hSr
       go_upto_region 11 with (at_builtin; refine wpListApp rfl _ _ _ rfl _ _ rfl rfl hrun1 ?_)
       go_upto_region 12 with (at_builtin; refine wpListApp rfl _ _ _ rfl _ _ rfl rfl hrun2 ?_)
       go_upto_region 4 with (at_builtin; refine wpListApp rfl _ _ _ rfl _ _ rfl rfl hrun3 ?_)
       go_wp2
       go_roundw
       case rel => exact ⟨k + 1, L.take i ++ [s] ++ L.drop i, g5, c5, by omega, by go_num, by first | rw [hll] | (rw [hll]; rfl), HL5, HS5, by rw [hll]; exact HR5, HB5⟩
       case measure => simp [intOf]; omega
     ·go_upto_region 4 with fail
      go_wp2
      go_roundw
      case rel => exact ⟨k + 1, L, g, c, by omega, by go_num, rfl, Nat.le_succ_of_le HLk.out, HLs, HR2, HB2⟩
      case measure => simp [intOf]; omega
  ·obtain rfl : k = l.length := by omega
   have HStr := Lib.hid (strsI_of_row HR.out)
   have HZ := Lib.hid (HB.out.trans (HBr.out.mono (by omega)))
   go_wp2
   go_ret
   exact ⟨g, c, L, rfl, HLk.out, HLs.out, HStr.out, HZ.out⟩
end Go.Proofs.YtjokbaaommicmaaGreatDoor
