/- Walks and mathematics that several claims share, part 22. -/
import Derived.Test.YtgagchlcafdiaaaGreatGb20
import Derived.Test.YtgagchlcafdiaaaGreatGb17
import Derived.Test.YtgagchlcafdiaaaGreatGb21
import Derived.Test.YtgagchlcafdiaaaGreatGb14
import Derived.Deep.CutRange
import Derived.Deep.CutBlock
import Derived.Deep.Cut
import Derived.Test.YtgagchlcafdiaaaGreatGbA
namespace Go.Proofs.YtgagchlcafdiaaaGreat
set_option maxRecDepth 100000
open Go.RowKit
set_option linter.unusedVariables false
set_option linter.unusedSimpArgs false
set_option linter.unusedVariables false

/-- A slice of texts as a walk reads it. -/
def StrsI (w : World) (B : Nat) (a : Option Addr) (n : Nat) (l : List ByteArray) : Prop :=
 l.length = n ∧ ∀ i, i < n → ∃ b off, a = some ⟨b, off, none⟩ ∧ b < B ∧ w.cell? ⟨b, off + i, none⟩ = some (.string (l.getD i ⟨#[]⟩))
theorem infoStrI : (Tryz.prog.info? 9).map (fun i => (i.zero, i.size, i.bytes)) = some (some (.string ⟨#[]⟩), 1, 16) := by kernel_rfl
theorem appStrs (w : World) (base : Nat) (v : Value) (n : Nat) (xs : List ByteArray) (hown : w.ownsRow base 9 1 v n (xs.map Value.string)) (B : Nat) (a : Option Addr) (m c : Nat) (ys : List ByteArray) (h : StrsI w B a m ys) (hc : a = none → c = 0) (hn : n + m ≤ 4194304) (hbase : base ≤ w.heap.size) :
  ∃ v' w', (Builtin.append_ #[75, 75] 75 #[v, .slice a m c]).run Tryz.prog w = .ok v' w' ∧ w'.ownsRow base 9 1 v' (n + m) ((xs ++ ys).map Value.string) ∧ w.grownBy w' v.ownBlock := by
 obtain ⟨i0, hi, hz0, hz1, hz2⟩ := info_parts infoStrI
 have hl : ys.length = m := h.1
 rcases a with _ | x
 ·have hm : m = 0 := by
   rcases Nat.eq_zero_or_pos m with g | g
   ·exact g
   ·obtain ⟨_, _, e, _⟩ := h.2 0 g; cases e
  subst hm
  have : ys = [] := List.eq_nil_of_length_eq_zero hl
  subst this
  rw [hc rfl]
  exact ⟨v, w, run_append_owned_none (P := Tryz.prog) w base 75 75 9 i0 1 Tryz.underlying75 hi v n _ hown, by simpa using hown, World.grownBy.refl _ _⟩
 ·have hcells : ∀ j u, (ys.map Value.string)[j]? = some u → w.cell? (x.add j) = some u := by
   intro j u hu
   have hj : j < ys.length := by
    rcases Nat.lt_or_ge j ys.length with g | g
    ·exact g
    ·rw [List.getElem?_eq_none (by simpa using g)] at hu; cases hu
   obtain ⟨b', off', e, _, hcc⟩ := h.2 j (by omega)
   injection e with e
   subst e
   rw [add_at, hcc]
   rw [List.getElem?_map, List.getElem?_eq_getElem hj] at hu
   rw [← hu, List.getD_eq_getElem?_getD, List.getElem?_eq_getElem hj]
   rfl
  obtain ⟨v', w', h1, h2, h3, _⟩ := run_append_own (P := Tryz.prog) w base 75 75 9 i0 (.string ⟨#[]⟩) 1 16 Tryz.underlying75 hi hz0 hz1 hz2 rfl (by decide) v n _ hown x m c (ys.map Value.string) (by rw [List.length_map, hl]; omega) hcells (by intro u hu; rw [List.mem_map] at hu; obtain ⟨z, _, rfl⟩ := hu; rfl) (by unfold maxLen; omega) (by omega) hbase
  exact ⟨v', w', h1, by rw [List.map_append]; exact h2, h3⟩
/-- A row of the call's own, as a walk reads it. -/
theorem strsI_of_row {w : World} {base n c : Nat} {a : Option Addr} {L : List ByteArray} (h : w.ownsRow base 9 1 (.slice a n c) n (L.map Value.string)) : StrsI w w.heap.size a n L := by
 have hl : L.length = n := by have := h.1; simpa using this
 refine ⟨hl, fun i hi => ?_⟩
 rcases h.2 with ⟨_, e2⟩ | ⟨g, cap, cur, e, hb, hg, hnc, _, hcs, ht⟩
 ·omega
 ·injection e with e1 e2 e3
  subst e1
  refine ⟨g, 0, rfl, (Array.getElem?_eq_some_iff.1 hg).1, ?_⟩
  rw [cell_of_row _ _ _ _ _ _ hg]
  have h2 : (cur.toList.take (n * 1))[i]? = (L.map Value.string)[i]? := by rw [ht]
  rw [Nat.mul_one, List.getElem?_take_of_lt hi, List.getElem?_map, List.getElem?_eq_getElem (by omega : i < L.length)] at h2
  rw [Nat.zero_add, ← Array.getElem?_toList, h2, List.getD_eq_getElem?_getD, List.getElem?_eq_getElem (by omega)]
  rfl
def ItmP (l : List OpV) (w : World) (e : Ending) (w' : World) : Prop :=
 ∃ g c L, e = .returned (.slice (some ⟨g, 0, none⟩) L.length c) ∧ L.length ≤ l.length ∧ (∀ s ∈ L, ∃ i, i < l.length ∧ s = (atOp l i).item) ∧ StrsI w' w'.heap.size (some ⟨g, 0, none⟩) L.length L ∧ Below w.heap.size w w'
theorem one_strI (w : World) (s : ByteArray) : StrsI (w.alloc (.cells #[.string s] 9)) (w.heap.size + 1) (some ⟨w.heap.size, 0, none⟩) 1 [s] := by
 refine ⟨rfl, fun i hi => ⟨w.heap.size, 0, rfl, by omega, ?_⟩⟩
 obtain rfl : i = 0 := by omega
 rw [cell_of_row _ _ _ _ _ _ (heap_alloc_new w _)]
 rfl
theorem own_wide {w : World} {base base' n size : Nat} {e : TypeId} {v : Value} {xs : List Value} (h : w.ownsRow base e size v n xs) (hb : base' ≤ base) : w.ownsRow base' e size v n xs := by
 refine ⟨h.1, ?_⟩
 rcases h.2 with h2 | ⟨g, cap, cur, e1, h3, r⟩
 ·exact .inl h2
 ·exact .inr ⟨g, cap, cur, e1, by omega, r⟩
theorem StrsI.below {w w' : World} {B B' : Nat} {a : Option Addr} {n : Nat} {l : List ByteArray} (h : StrsI w B a n l) (hb : Below B' w w') (hB : B ≤ B') : StrsI w' B a n l :=
 ⟨h.1, fun i hi => by
  obtain ⟨b, off, e, hbb, hc⟩ := h.2 i hi
  exact ⟨b, off, e, hbb, (World.cell?_of_block (a := ⟨b, off + i, none⟩) (hb.block b (by omega))).trans hc⟩⟩
theorem StrsI.more {w : World} {B B' : Nat} {a : Option Addr} {n : Nat} {l : List ByteArray} (h : StrsI w B a n l) (hB : B ≤ B') : StrsI w B' a n l :=
 ⟨h.1, fun i hi => by
  obtain ⟨b, off, e, hbb, hc⟩ := h.2 i hi
  exact ⟨b, off, e, by omega, hc⟩⟩
theorem StrsI.take {w : World} {B : Nat} {a : Option Addr} {n k : Nat} {l : List ByteArray} (h : StrsI w B a n l) (hk : k ≤ n) : StrsI w B a k (l.take k) :=
 ⟨by rw [List.length_take, h.1]; omega, fun i hi => by
  obtain ⟨b, off, e, hbb, hc⟩ := h.2 i (by omega)
  refine ⟨b, off, e, hbb, ?_⟩
  rw [hc, List.getD_eq_getElem?_getD, List.getD_eq_getElem?_getD, List.getElem?_take_of_lt hi]⟩
theorem StrsI.drop {w : World} {B g : Nat} {n k : Nat} {l : List ByteArray} (h : StrsI w B (some ⟨g, 0, none⟩) n l) (hk : k ≤ n) : StrsI w B (some ⟨g, k, none⟩) (n - k) (l.drop k) :=
 ⟨by rw [List.length_drop, h.1], fun i hi => by
  obtain ⟨b, off, e, hbb, hc⟩ := h.2 (k + i) (by omega)
  injection e with e
  injection e with e1 e2
  subst e1 e2
  refine ⟨g, k, rfl, hbb, ?_⟩
  rw [Nat.zero_add] at hc
  rw [hc, List.getD_eq_getElem?_getD, List.getD_eq_getElem?_getD, List.getElem?_drop]⟩
set_option maxHeartbeats 40000000 in
theorem l5Items (w : World) (B : Nat) (av ao : Option Addr) (nv cv no co : Nat) (xs : List Int) (l : List OpV) (h : Ops w B ao no l) (hB : B ≤ w.heap.size) (hn : no ≤ 1048576) (hc : cartB xs l = true) :
  Calls Tryz.prog 60 #[.agg #[.slice av nv cv, .slice ao no co]] w (ItmP l w) := by
 obtain rfl := h.1
 have HC := Lib.hid hc
 clear hc
 have hb0 : Below w.heap.size w (w.alloc (.cells #[.slice av nv cv, .slice ao l.length co] 49)) := (Below.refl _ w).alloc (Nat.le_refl _) _
 have HO := Lib.hid (h.below hb0 hB)
 have HB := Lib.hid hb0
 have HX := Lib.hid (boxAt (Below.refl _ (w.alloc (.cells #[.slice av nv cv, .slice ao l.length co] 49))))
 have hsz : (w.alloc (.cells #[.slice av nv cv, .slice ao l.length co] 49)).heap.size = w.heap.size + 1 := by show (w.heap.push _).size = _; simp
 clear h hb0
 go_enter Tryz.func60, Tryz.ntmps60
 go_wp2
 obtain ⟨w0, hw0⟩ : ∃ w0, w0 = w.alloc (.cells #[.slice av nv cv, .slice ao l.length co] 49) := ⟨_, rfl⟩
 rw [← hw0] at HO HB HX hsz ⊢
 clear hw0
 have hr0 := World.ownsRow_made (e := 9) (size := 1) (base := w.heap.size + 1) w0 #[] 0 (by omega) (by unfold maxLen; omega) rfl
 rw [hsz] at hr0
 have HR0 := Lib.hid hr0
 have HW0 : Hid (Below (w.heap.size + 1) w0 (w0.alloc (.cells #[] 9))) := (Below.refl _ _).alloc (by omega) _
 have hsz1 : w0.heap.size ≤ w.heap.size + 1 := by omega
 have hsz2 : w.heap.size + 1 ≤ w0.heap.size := by omega
 clear hsz hr0
 go_loopw [3, 4] (fun v i wr => ∃ (k : Nat) (L : List ByteArray) (g c : Nat), k ≤ l.length ∧ i = .int .i64 (k : Int) ∧ v = .slice (some ⟨g, 0, none⟩) L.length c ∧ Hid (L.length ≤ k) ∧ Hid (∀ s ∈ L, ∃ i, i < l.length ∧ s = (atOp l i).item) ∧ Hid (wr.ownsRow (w.heap.size + 1) 9 1 (.slice (some ⟨g, 0, none⟩) L.length c) L.length (L.map Value.string)) ∧ Hid (Below (w.heap.size + 1) w0 wr)) (fun _ i _ => l.length - (intOf i).toNat)
 case atStart => exact ⟨0, [], _, _, Nat.zero_le _, rfl, rfl, Nat.le_refl _, (fun s hs => by cases hs), HR0.out, HW0.out⟩
 case round =>
  obtain ⟨k, L, g, c, hk, rfl, rfl, HLk, HLs, HR, HBr⟩ := hrel
  have hLk : L.length ≤ l.length := Nat.le_trans HLk.out hk
  have hbs := HBr.out.size
  have hcap : L.length ≤ c := (caps_of_row HR.out).1
  have HBx := Lib.hid ((HBr.out.block w.heap.size (by omega)).trans HX.out)
  obtain ⟨c0, c1⟩ := pair_cells HBx.out
  by_cases hlt : k < l.length
  ·obtain ⟨b, off, rfl, hb, ho⟩ := (HO.out.below HBr.out (by omega)).2 k hlt
   have hki : (k : Int) < (l.length : Int) := by omega
   have c4 := ho.2.2.2.2.1
   obtain ⟨s, hs⟩ : ∃ s, s = (l.getD k OpV.zero).item := ⟨_, rfl⟩
   rw [← hs] at c4
   have HSe : Hid (s = (atOp l k).item) := hs
   have HStr := Lib.hid (strsI_of_row HR.out)
   clear ho hs
   go_upto_block 2 with fail
   clear c4 c0 c1
   go_cut [6] from 9 to 67 (fun j wx => wx = wr ∧ ∃ i : Nat, i ≤ L.length ∧ j = .int .i64 (i : Int))
   case first =>
    go_wp2
    go_loop [6] (fun j => ∃ i : Nat, i ≤ L.length ∧ j = .int .i64 (i : Int)) (fun j => L.length - (intOf j).toNat)
    case atStart => exact ⟨0, Nat.zero_le _, rfl⟩
    case round =>
     obtain ⟨i, hi, rfl⟩ := hrel
     by_cases hil : i < L.length
     ·obtain ⟨b2, o2, e2, hb2, hcc⟩ := HStr.out.2 i hil
      injection e2 with e2
      injection e2 with e3 e4
      subst e3 e4
      rw [Nat.zero_add] at hcc
      obtain ⟨x, hx⟩ : ∃ x, x = L.getD i ⟨#[]⟩ := ⟨_, rfl⟩
      rw [← hx] at hcc
      have hii : (i : Int) < (L.length : Int) := by omega
      clear hx
      go_wp2
      ·exact ⟨⟨i + 1, by omega, by go_num⟩, by simp [intOf]; omega⟩
      ·go_meet
       exact ⟨rfl, i, hi, rfl⟩
     ·go_wp2
      go_meet
      exact ⟨rfl, i, hi, rfl⟩
   case rest =>
    obtain ⟨hwc, i, hi, rfl⟩ := hcut
    subst hwc
    obtain ⟨c0, c1⟩ := pair_cells HBx.out
    go_upto_region 9 with fail
    go_cut [53] from 9 to 67 (fun bv wx => (∃ bb : Bool, bv = .bool bb) ∧ Hid (Below wc.heap.size wc wx))
    case first =>
     by_cases hil : i < L.length
     ·obtain ⟨b2, o2, e2, hb2, hcc⟩ := HStr.out.2 i hil
      injection e2 with e2
      injection e2 with e3 e4
      subst e3 e4
      rw [Nat.zero_add] at hcc
      obtain ⟨x, hx⟩ : ∃ x, x = L.getD i ⟨#[]⟩ := ⟨_, rfl⟩
      rw [← hx] at hcc
      have hii : (i : Int) < (L.length : Int) := by omega
      clear hx
      by_cases hxs : (x.toList == s.toList) = true
      ·go_wp2
       go_meet
       exact ⟨⟨_, rfl⟩, Below.refl _ _⟩
      ·have hxs' : (x.toList == s.toList) = false := by simpa using hxs
       clear hxs
       go_wp2_with fail
       refine (l5There wc B av _ nv cv l.length co xs l s (HO.out.below HBr.out (by omega)) (by omega) hn HC.out).mono ?_
       rintro e w2 ⟨rfl, hb3⟩
       go_wp2
       all_goals (go_meet; exact ⟨⟨_, rfl⟩, hb3⟩)
     ·go_wp2_with fail
      refine (l5There wc B av _ nv cv l.length co xs l s (HO.out.below HBr.out (by omega)) (by omega) hn HC.out).mono ?_
      rintro e w2 ⟨rfl, hb3⟩
      go_wp2
      all_goals (go_meet; exact ⟨⟨_, rfl⟩, hb3⟩)
    case rest =>
     obtain ⟨⟨bb, rfl⟩, HW⟩ := hcut
     clear c0 c1
     have hw2 := HW.out.size
     have HB2 := Lib.hid (HBr.out.trans (HW.out.mono (by omega)))
     have HR2 : Hid (wc.ownsRow (w.heap.size + 1) 9 1 (.slice (some ⟨g, 0, none⟩) L.length c) L.length (L.map Value.string)) := HR.out.kept (row := none) ⟨HW.out.os, HW.out.tape, HW.out.output, HW.out.size, fun j hj _ => HW.out.block j hj⟩ (.inr (by simp [Value.ownBlock]))
     have HS2 := Lib.hid (strsI_of_row HR2.out)
     cases bb
     ·have hi63 : i ≤ c := by omega
      have hb0 : Below wc.heap.size wc (wc.alloc (.cells #[] 9)) := bl
      have hr0 : (wc.alloc (.cells #[] 9)).ownsRow wc.heap.size 9 1 (.slice (some ⟨wc.heap.size, 0, none⟩) 0 0) 0 (([] : List ByteArray).map Value.string) := World.ownsRow_made wc #[] 0 (Nat.le_refl _) (by unfold maxLen; omega) rfl
      have hTk := (HS2.out.below hb0 (Nat.le_refl _)).take hi
      go_upto_region 10 with fail
      by_cases hci : i = c
      ·obtain rfl : i = c := hci
       have hiL : L.length ≤ i := by omega
       obtain ⟨v1, w3, hrun1, hr1, hgr1⟩ := appStrs _ wc.heap.size _ 0 [] hr0 (wc.heap.size) (some ⟨g, 0, none⟩) i i (L.take i) hTk (fun h => by cases h) (by omega) hb0.size
       have hr1' : w3.ownsRow wc.heap.size 9 1 v1 i ((L.take i).map Value.string) := by simpa using hr1
       have hB3 : Below wc.heap.size wc w3 := hb0.grown hgr1 hb0.size (fun j hj => (hr0.lt j hj).1)
       clear hr1 hgr1 hr0
       have hbA : Below wc.heap.size w3 (w3.alloc (.cells #[.string s] 9)) := (Below.refl _ _).alloc hB3.size _
       have hOne : StrsI (w3.alloc (.cells #[.string s] 9)) (w3.heap.size + 1) (some ⟨w3.heap.size, 0, none⟩) 1 [s] := one_strI w3 s
       have hrA := hr1'.alloc (.cells #[.string s] 9)
       obtain ⟨v2, w4, hrun2, hr2, hgr2⟩ := appStrs _ wc.heap.size v1 i (L.take i) hrA (w3.heap.size + 1) (some ⟨w3.heap.size, 0, none⟩) 1 1 [s] hOne (fun h => by cases h) (by omega) (Nat.le_trans hB3.size hbA.size)
       have hB4 : Below wc.heap.size wc w4 := hB3.trans (hbA.grown hgr2 (Nat.le_trans hB3.size hbA.size) (fun j hj => (hrA.lt j hj).1))
       have hSr : StrsI w4 wc.heap.size (some ⟨g, 0, none⟩) 0 (L.drop i) := ⟨by rw [List.length_drop]; omega, fun j hj => absurd hj (by omega)⟩
       obtain ⟨v3, w5, hrun3, hr3, hgr3⟩ := appStrs w4 wc.heap.size v2 (i + 1) _ hr2 wc.heap.size (some ⟨g, 0, none⟩) 0 0 (L.drop i) hSr (fun h => by cases h) (by omega) hB4.size
       have hB5 : Below wc.heap.size wc w5 := hB4.grown hgr3 hB4.size (fun j hj => (hr2.lt j hj).1)
       obtain ⟨g5, c5, rfl⟩ : ∃ g5 c5, v3 = .slice (some ⟨g5, 0, none⟩) (i + 1 + 0) c5 := by
        rcases hr3.2 with ⟨_, e2⟩ | ⟨g5, c5, _, e2, _⟩
        ·omega
        ·exact ⟨g5, c5, e2⟩
       have hll : (L.take i ++ [s] ++ L.drop i).length = i + 1 + 0 := by simp; omega
       have HR5 : Hid (w5.ownsRow (w.heap.size + 1) 9 1 (.slice (some ⟨g5, 0, none⟩) (i + 1 + 0) c5) (i + 1 + 0) ((L.take i ++ [s] ++ L.drop i).map Value.string)) := own_wide hr3 (by omega)
       have HB5 : Hid (Below (w.heap.size + 1) w0 w5) := HB2.out.trans (hB5.mono (by omega))
       have HL5 : Hid ((L.take i ++ [s] ++ L.drop i).length ≤ k + 1) := by have := HLk.out; show _ ≤ _; rw [hll]; omega
       have HS5 : Hid (∀ q ∈ L.take i ++ [s] ++ L.drop i, ∃ i, i < l.length ∧ q = (atOp l i).item) := by
        intro q hq
        simp only [List.mem_append, List.mem_singleton] at hq
        rcases hq with (hq | rfl) | hq
        ·exact HLs.out q (List.mem_of_mem_take hq)
        ·exact ⟨k, hlt, HSe.out⟩
        ·exact HLs.out q (List.mem_of_mem_drop hq)
       clear hr1' hr2 hr3 hgr2 hgr3 hB3 hB4 hB5 hbA hOne hrA hSr
       go_upto_region 11 with (at_builtin; refine wpListApp rfl _ _ _ rfl _ _ rfl rfl hrun1 ?_)
       go_upto_region 12 with (at_builtin; refine wpListApp rfl _ _ _ rfl _ _ rfl rfl hrun2 ?_)
       go_upto_region 4 with (at_builtin; refine wpListApp rfl _ _ _ rfl _ _ rfl rfl hrun3 ?_)
       go_wp2
       go_roundw
       case rel => exact ⟨k + 1, L.take i ++ [s] ++ L.drop i, g5, c5, by omega, by go_num, by first | rw [hll] | (rw [hll]; rfl), HL5, HS5, by rw [hll]; exact HR5, HB5⟩
       case measure => simp [intOf]; omega
      ·have hcc : ¬ (c : Int) = (i : Int) := by omega
       obtain ⟨v1, w3, hrun1, hr1, hgr1⟩ := appStrs _ wc.heap.size _ 0 [] hr0 (wc.heap.size) (some ⟨g, 0, none⟩) i c (L.take i) hTk (fun h => by cases h) (by omega) hb0.size
       have hr1' : w3.ownsRow wc.heap.size 9 1 v1 i ((L.take i).map Value.string) := by simpa using hr1
       have hB3 : Below wc.heap.size wc w3 := hb0.grown hgr1 hb0.size (fun j hj => (hr0.lt j hj).1)
       clear hr1 hgr1 hr0
       have hbA : Below wc.heap.size w3 (w3.alloc (.cells #[.string s] 9)) := (Below.refl _ _).alloc hB3.size _
       have hOne : StrsI (w3.alloc (.cells #[.string s] 9)) (w3.heap.size + 1) (some ⟨w3.heap.size, 0, none⟩) 1 [s] := one_strI w3 s
       have hrA := hr1'.alloc (.cells #[.string s] 9)
       obtain ⟨v2, w4, hrun2, hr2, hgr2⟩ := appStrs _ wc.heap.size v1 i (L.take i) hrA (w3.heap.size + 1) (some ⟨w3.heap.size, 0, none⟩) 1 1 [s] hOne (fun h => by cases h) (by omega) (Nat.le_trans hB3.size hbA.size)
       have hB4 : Below wc.heap.size wc w4 := hB3.trans (hbA.grown hgr2 (Nat.le_trans hB3.size hbA.size) (fun j hj => (hrA.lt j hj).1))
       have hSr : StrsI w4 wc.heap.size (some ⟨g, i, none⟩) (L.length - i) (L.drop i) := ((HS2.out.below hB4 (Nat.le_refl _)).drop hi)
       obtain ⟨v3, w5, hrun3, hr3, hgr3⟩ := appStrs w4 wc.heap.size v2 (i + 1) _ hr2 wc.heap.size (some ⟨g, i, none⟩) (L.length - i) (c - i) (L.drop i) hSr (fun h => by cases h) (by omega) hB4.size
       have hB5 : Below wc.heap.size wc w5 := hB4.grown hgr3 hB4.size (fun j hj => (hr2.lt j hj).1)
       obtain ⟨g5, c5, rfl⟩ : ∃ g5 c5, v3 = .slice (some ⟨g5, 0, none⟩) (i + 1 + (L.length - i)) c5 := by
        rcases hr3.2 with ⟨_, e2⟩ | ⟨g5, c5, _, e2, _⟩
        ·omega
        ·exact ⟨g5, c5, e2⟩
       have hll : (L.take i ++ [s] ++ L.drop i).length = i + 1 + (L.length - i) := by simp; omega
       have HR5 : Hid (w5.ownsRow (w.heap.size + 1) 9 1 (.slice (some ⟨g5, 0, none⟩) (i + 1 + (L.length - i)) c5) (i + 1 + (L.length - i)) ((L.take i ++ [s] ++ L.drop i).map Value.string)) := own_wide hr3 (by omega)
       have HB5 : Hid (Below (w.heap.size + 1) w0 w5) := HB2.out.trans (hB5.mono (by omega))
       have HL5 : Hid ((L.take i ++ [s] ++ L.drop i).length ≤ k + 1) := by have := HLk.out; show _ ≤ _; rw [hll]; omega
       have HS5 : Hid (∀ q ∈ L.take i ++ [s] ++ L.drop i, ∃ i, i < l.length ∧ q = (atOp l i).item) := by
        intro q hq
        simp only [List.mem_append, List.mem_singleton] at hq
        rcases hq with (hq | rfl) | hq
        ·exact HLs.out q (List.mem_of_mem_take hq)
        ·exact ⟨k, hlt, HSe.out⟩
        ·exact HLs.out q (List.mem_of_mem_drop hq)
       clear hr1' hr2 hr3 hgr2 hgr3 hB3 hB4 hB5 hbA hOne hrA hSr
       go_upto_region 11 with (at_builtin; refine wpListApp rfl _ _ _ rfl _ _ rfl rfl hrun1 ?_)
       go_upto_region 12 with (at_builtin; refine wpListApp rfl _ _ _ rfl _ _ rfl rfl hrun2 ?_)
       go_upto_region 4 with (at_builtin; refine wpListApp rfl _ _ _ rfl _ _ rfl rfl hrun3 ?_)
       go_wp2
       go_roundw
       case rel => exact ⟨k + 1, L.take i ++ [s] ++ L.drop i, g5, c5, by omega, by go_num, by first | rw [hll] | (rw [hll]; rfl), HL5, HS5, by rw [hll]; exact HR5, HB5⟩
       case measure => simp [intOf]; omega
     ·go_upto_region 4 with fail
      go_wp2
      go_roundw
      case rel => exact ⟨k + 1, L, g, c, by omega, by go_num, rfl, Nat.le_succ_of_le HLk.out, HLs, HR2, HB2⟩
      case measure => simp [intOf]; omega
  ·obtain rfl : k = l.length := by omega
   have HStr := Lib.hid (strsI_of_row HR.out)
   have HZ := Lib.hid (HB.out.trans (HBr.out.mono (by omega)))
   go_wp2
   go_ret
   exact ⟨g, c, L, rfl, HLk.out, HLs.out, HStr.out, HZ.out⟩
set_option linter.unusedVariables false
set_option linter.unusedSimpArgs false

/-- What the loop of l6Clear keeps: block nb holds the cart of now; when the code is 0 it is the call's own. -/
structure ClrI (w w1 wr : World) (nb : Nat) (code : Value) (k : Nat) : Prop where
 bel : Below w.heap.size w wr
 size : w1.heap.size ≤ wr.heap.size
 kept : ∀ j, j < w1.heap.size → j ≠ nb → wr.heap[j]? = w1.heap[j]?
 now : ∃ zs m va vc oa oc, wr.heap[nb]? = some (.cells #[.slice va 4 vc, .slice oa m.length oc] 49 (0, 0)) ∧ Ints wr wr.heap.size va 4 zs ∧ Ops wr wr.heap.size oa m.length m ∧ Caps va 4 vc ∧ Caps oa m.length oc ∧ Bnd zs m (160 + k) ∧ (code = .int .i64 2 ∨ (code = .int .i64 0 ∧ Own wr (nb + 1) wr.heap.size va 4 zs ∧ OwnOps wr (nb + 1) wr.heap.size oa m.length m))
theorem ClrI.step {w w1 wr w2 : World} {nb : Nat} {code : Value} {k : Nat} (h : ClrI w w1 wr nb code k) (hw : nb < w1.heap.size) (hb : Below wr.heap.size wr w2) : ClrI w w1 w2 nb code k := by
 have hs := h.size
 have hs2 := hb.size
 have hs3 := h.bel.size
 obtain ⟨zs, m, va, vc, oa, oc, e, hi, ho, c1, c2, hB, hc⟩ := h.now
 refine ⟨h.bel.trans (hb.mono hs3), by omega, fun j h1 h2 => (hb.block j (by omega)).trans (h.kept j h1 h2), zs, m, va, vc, oa, oc, (hb.block _ (by omega)).trans e, (hi.below hb (Nat.le_refl _)).more hs2, (ho.below hb (Nat.le_refl _)).more hs2, c1, c2, hB, ?_⟩
 rcases hc with hc | ⟨hc, h1, h2⟩
 ·exact .inl hc
 ·exact .inr ⟨hc, (h1.below hb (Nat.le_refl _)).more (Nat.le_refl _) hs2, (h2.below hb (Nat.le_refl _)).more (Nat.le_refl _) hs2⟩
theorem ClrI.more {w w1 wr : World} {nb : Nat} {code : Value} {k k' : Nat} (h : ClrI w w1 wr nb code k) (hk : k ≤ k') : ClrI w w1 wr nb code k' := by
 obtain ⟨zs, m, va, vc, oa, oc, e, hi, ho, c1, c2, hB, hc⟩ := h.now
 exact ⟨h.bel, h.size, h.kept, zs, m, va, vc, oa, oc, e, hi, ho, c1, c2, hB.more (by omega), hc⟩
theorem ClrI.put {w w1 wr : World} {nb : Nat} {code : Value} {k k' : Nat} (h : ClrI w w1 wr nb code k) (hw : w.heap.size ≤ nb) {zs : List Int} {m : List OpV} {va oa : Option Addr} {vc oc lo hi : Nat} (h1 : Own wr lo hi va 4 zs) (h2 : OwnOps wr lo hi oa m.length m) (hlo : nb + 1 ≤ lo) (hhi : hi ≤ wr.heap.size) (c1 : Caps va 4 vc) (c2 : Caps oa m.length oc) (hB : Bnd zs m (160 + k')) :
  ClrI w w1 ((wr.setCell ⟨nb, 0, none⟩ (.slice va 4 vc)).setCell ⟨nb, 1, none⟩ (.slice oa m.length oc)) nb (.int .i64 0) k' := by
 have hs := h.size
 obtain ⟨zs', m', va', vc', oa', oc', e, _⟩ := h.now
 have hz := pair_size wr nb (.slice va 4 vc) (.slice oa m.length oc)
 have g1 : Own ((wr.setCell ⟨nb, 0, none⟩ (.slice va 4 vc)).setCell ⟨nb, 1, none⟩ (.slice oa m.length oc)) lo hi va 4 zs := h1.kept fun j a1 a2 => pair_other _ _ (by omega)
 have g2 : OwnOps ((wr.setCell ⟨nb, 0, none⟩ (.slice va 4 vc)).setCell ⟨nb, 1, none⟩ (.slice oa m.length oc)) lo hi oa m.length m := h2.kept fun j a1 a2 => pair_other _ _ (by omega)
 refine ⟨(h.bel.setCell (p := ⟨nb, 0, none⟩) hw _).setCell (p := ⟨nb, 1, none⟩) hw _, by rw [hz]; exact hs, fun j a1 a2 => (pair_other _ _ a2).trans (h.kept j a1 a2), zs, m, va, vc, oa, oc, pair_set _ _ e, ?_, ?_, c1, c2, hB, .inr ⟨rfl, ?_, ?_⟩⟩
 ·rw [hz]; exact g1.ints.more hhi
 ·rw [hz]; exact g2.ops.more hhi
 ·rw [hz]; exact g1.more hlo hhi
 ·rw [hz]; exact g2.more hlo hhi

theorem l6PutAny (zs : List Int) (m : List OpV) (d N : Nat) (hN : N ≤ 99999) (o : OpV) (hB : Bnd zs m N) (hd : d < 4) (hi : o.item.size ≤ 1048576) :
  ∃ (ok : Bool) (zs' : List Int) (m' : List OpV), (ok = true → Bnd zs' m' (N + 1)) ∧ ∀ (w : World) (B : Nat) (av ao : Option Addr) (cv co : Nat), Ints w B av 4 zs → Ops w B ao m.length m → B ≤ w.heap.size → Caps av 4 cv → Caps ao m.length co →
   Calls Tryz.prog 112 #[.agg #[.slice av 4 cv, .slice ao m.length co], .int .i64 (d : Int), .agg #[.int .i64 o.dev, .int .i64 o.seq, .int .i64 o.stamp, .int .i64 o.kind, .string o.item, .int .i64 o.qty, .int .i64 o.level, .int .i64 o.undos]] w (IssB ok zs' m' w) := by
 have hm := hB.most
 cases hok : (nextOp zs m d o).ok
 ·exact ⟨false, [], [], (fun h => by cases h), fun w B av ao cv co h1 h2 h3 h4 h5 => l6PutNo w B av ao cv m.length co d zs m o h1 h2 h3 h4.2.2 h5 hd (by omega) (hB.num d hd) hB.stamp hi hok⟩
 ·exact ⟨true, _, _, fun _ => hB.put hd hok, fun w B av ao cv co h1 h2 h3 h4 h5 => l6PutYes w B av ao cv m.length co d zs m o h1 h2 h3 h4.2.2 h5 hd (by omega) (hB.num d hd) hB.stamp hi hok⟩
theorem crtStore {w0 z : World} {b lo hi g n k : Nat} {va oa : Option Addr} {zs : List Int} {m : List OpV} {x y : Value} {T : TypeId} (u v : Value) (hbel : Below b w0 z) (hbox : z.heap[g]? = some (.cells #[x, y] T (0, 0))) (hn : b ≤ g) (hne : hi ≤ g ∨ g < lo) (h1 : Own z lo hi va n zs) (h2 : OwnOps z lo hi oa k m) :
  Hid (((z.setCell ⟨g, 0, none⟩ u).setCell ⟨g, 1, none⟩ v).heap[g]? = some (.cells #[u, v] T (0, 0))) ∧ Hid (Own ((z.setCell ⟨g, 0, none⟩ u).setCell ⟨g, 1, none⟩ v) lo hi va n zs) ∧ Hid (OwnOps ((z.setCell ⟨g, 0, none⟩ u).setCell ⟨g, 1, none⟩ v) lo hi oa k m) ∧ Below b w0 ((z.setCell ⟨g, 0, none⟩ u).setCell ⟨g, 1, none⟩ v) ∧ z.heap.size ≤ ((z.setCell ⟨g, 0, none⟩ u).setCell ⟨g, 1, none⟩ v).heap.size :=
 ⟨pair_set u v hbox, h1.kept fun j a1 a2 => pair_other _ _ (by omega), h2.kept fun j a1 a2 => pair_other _ _ (by omega), (hbel.setCell (p := ⟨g, 0, none⟩) hn u).setCell (p := ⟨g, 1, none⟩) hn v, Nat.le_of_eq (pair_size _ _ _ _).symm⟩

set_option maxHeartbeats 40000000 in
theorem l6Clear (w : World) (B : Nat) (av ao : Option Addr) (cv no co d : Nat) (xs : List Int) (l : List OpV) (hx : Ints w B av 4 xs) (h : Ops w B ao no l) (hB : B ≤ w.heap.size) (hcv : Caps av 4 cv) (hco : Caps ao no co) (hd : d < 4) (hc : cartB xs l = true) :
  Calls Tryz.prog 107 #[.agg #[.slice av 4 cv, .slice ao no co], .int .i64 (d : Int)] w (IssW 320 w) := by
 obtain rfl := h.1
 have hT := Two.mk0 w #[.slice av 4 cv, .slice ao l.length co] #[.slice none 0 0, .slice none 0 0] 49
 have hTs : ((w.alloc (.cells #[.slice av 4 cv, .slice ao l.length co] 49)).alloc (.cells #[.slice none 0 0, .slice none 0 0] 49)).heap.size = w.heap.size + 2 := by simp
 have HV := Lib.hid (hx.below hT.bel hB)
 have HO := Lib.hid (h.below hT.bel hB)
 have HT := Lib.hid hT
 have HTs := Lib.hid hTs
 have HOw := Lib.hid h
 have HC := Lib.hid hc
 have HCv := Lib.hid hcv
 have HCo := Lib.hid hco
 have HBn := Lib.hid (Bnd.of_cart hc)
 have hl := cart_length hc
 clear hx h hT hTs hc hcv hco
 go_enter Tryz.func107, Tryz.ntmps107
 go_upto_region 1 with fail
 generalize (w.alloc (.cells #[.slice av 4 cv, .slice ao l.length co] 49)).alloc (.cells #[.slice none 0 0, .slice none 0 0] 49) = w0 at HV HO HT HTs ⊢
 have hs0 := HT.out.bel.size
 obtain ⟨q0, q1⟩ := pair_cells HT.out.fst
 go_upto_region 3 with fail
 have hb1 : Below w0.heap.size w0 (w0.alloc (.cells #[.slice av 4 cv, .slice ao l.length co] 49)) := (Below.refl _ w0).alloc (Nat.le_refl _) _
 have HN1 : Hid ((w0.alloc (.cells #[.slice av 4 cv, .slice ao l.length co] 49)).heap[w0.heap.size]? = some (.cells #[.slice av 4 cv, .slice ao l.length co] 49 (0, 0))) := boxAt (Below.refl _ _)
 generalize w0.alloc (.cells #[.slice av 4 cv, .slice ao l.length co] 49) = w1 at hb1 HN1 ⊢
 have HT1 := Lib.hid (HT.out.next hb1)
 have HO1 := Lib.hid (HO.out.below hb1 (by omega))
 have HV1 := Lib.hid (HV.out.below hb1 (by omega))
 have hlt1 := lt_of_row HN1.out
 clear q0 q1 HT HO HV hb1
 generalize hnb : w0.heap.size = nb at HN1 hlt1 ⊢
 have hnb2 : w.heap.size + 1 < nb := by have := HTs.out; omega
 clear hnb HTs
 obtain ⟨q0, q1⟩ := pair_cells HT1.out.fst
 go_wp2_with fail
 refine (l5Items w1 B av ao 4 cv l.length co xs l HO1.out (by omega) (by omega) HC.out).mono ?_
 rintro e w2 ⟨g, c, L, rfl, hLl, hLi, hStr, hb2⟩
 have HI8 : Hid (∀ i, i < L.length → (L.getD i ⟨#[]⟩).size ≤ 8) := fun i hi => by
  rw [List.getD_eq_getElem?_getD, List.getElem?_eq_getElem hi]
  obtain ⟨j, hj, e⟩ := hLi _ (List.getElem_mem hi)
  show (L[i]).size ≤ 8
  rw [e]
  exact (op_bounds (cart_op HC.out hj)).2.2.2.2.1
 have HStr := Lib.hid hStr
 have HT2 := Lib.hid (HT1.out.next hb2)
 have HN2 := Lib.hid ((hb2.block _ hlt1).trans HN1.out)
 have hs2 := hb2.size
 have HOw2 := Lib.hid (HO1.out.below hb2 (by omega))
 have HI0 : Hid (ClrI w w2 w2 nb (.int .i64 2) 0) := ⟨HT2.out.bel, Nat.le_refl _, fun _ _ _ => rfl, xs, l, av, cv, ao, co, HN2.out, (HV1.out.below hb2 (by omega)).more (by omega), HOw2.out.more (by omega), HCv.out, HCo.out, HBn.out, .inl rfl⟩
 clear hStr hLi hb2 HT1 HO1 HV1 HN1 q0 q1
 go_wp2
 go_loopw [7, 9] (fun cc i wr => ∃ (k : Nat) (cx : Value), k ≤ L.length ∧ cx = cc ∧ i = .int .i64 (k : Int) ∧ Hid (ClrI w w2 wr nb cx k)) (fun _ i _ => L.length - (intOf i).toNat)
 case atStart => exact ⟨0, _, Nat.zero_le _, rfl, rfl, HI0.out⟩
 case round =>
  obtain ⟨k, cd, hk, hcd, rfl, HI⟩ := hrel
  subst hcd
  clear HI0
  have hsr := HI.out.size
  have HX := Lib.hid ((HI.out.kept w.heap.size (by omega) (by omega)).trans HT2.out.fst)
  have HR := Lib.hid ((HI.out.kept (w.heap.size + 1) (by omega) (by omega)).trans HT2.out.snd)
  by_cases hlt : k < L.length
  rotate_left
  ·obtain ⟨zs, m, va, vc, oa, oc, e, hi, ho, c1, c2, hBn, hcode⟩ := HI.out.now
   obtain ⟨n0, n1⟩ := pair_cells e
   rcases hcode with rfl | ⟨rfl, g1, g2⟩
   ·skip
    obtain ⟨r0, r1⟩ := pair_cells HR.out
    obtain ⟨f0, f1⟩ := pair_frozen HR.out
    have HX6 := Lib.hid (pair_set (.slice va 4 vc) (.slice oa m.length oc) HR.out)
    have HB6 : Hid (Below w.heap.size w ((wr.setCell ⟨w.heap.size + 1, 0, none⟩ (.slice va 4 vc)).setCell ⟨w.heap.size + 1, 1, none⟩ (.slice oa m.length oc))) := HI.out.bel.trans ((below_set2 wr (w.heap.size + 1) 0 1 _ _).mono (by omega))
    go_wp2
    generalize (wr.setCell ⟨w.heap.size + 1, 0, none⟩ (.slice va 4 vc)).setCell ⟨w.heap.size + 1, 1, none⟩ (.slice oa m.length oc) = wf at HX6 HB6 ⊢
    obtain ⟨p0, p1⟩ := pair_cells HX6.out
    exact bodyPost_ret (v := .tuple #[.agg #[.slice va 4 vc, .slice oa m.length oc], .int .i64 2]) (by simp [results, Tryz.results107, go_sem, p0, p1]) rfl ⟨va, 4, vc, oa, m.length, oc, 2, rfl, HB6.out, fun h => absurd h (by omega)⟩
   ·skip
    obtain ⟨r0, r1⟩ := pair_cells HR.out
    obtain ⟨f0, f1⟩ := pair_frozen HR.out
    have HX6 := Lib.hid (pair_set (.slice va 4 vc) (.slice oa m.length oc) HR.out)
    have HB6 : Hid (Below w.heap.size w ((wr.setCell ⟨w.heap.size + 1, 0, none⟩ (.slice va 4 vc)).setCell ⟨w.heap.size + 1, 1, none⟩ (.slice oa m.length oc))) := HI.out.bel.trans ((below_set2 wr (w.heap.size + 1) 0 1 _ _).mono (by omega))
    have hz6 := Lib.hid (pair_size wr (w.heap.size + 1) (.slice va 4 vc) (.slice oa m.length oc))
    have HC6 : Hid (Crt ((wr.setCell ⟨w.heap.size + 1, 0, none⟩ (.slice va 4 vc)).setCell ⟨w.heap.size + 1, 1, none⟩ (.slice oa m.length oc)) w.heap.size ((wr.setCell ⟨w.heap.size + 1, 0, none⟩ (.slice va 4 vc)).setCell ⟨w.heap.size + 1, 1, none⟩ (.slice oa m.length oc)).heap.size va vc oa m.length oc 320) := ⟨zs, m, rfl, (g1.kept fun j a1 a2 => pair_other _ _ (by omega)).more (by omega) (by rw [hz6.out]; exact Nat.le_refl _), (g2.kept fun j a1 a2 => pair_other _ _ (by omega)).more (by omega) (by rw [hz6.out]; exact Nat.le_refl _), c1, c2, hBn.more (by omega)⟩
    go_wp2
    generalize (wr.setCell ⟨w.heap.size + 1, 0, none⟩ (.slice va 4 vc)).setCell ⟨w.heap.size + 1, 1, none⟩ (.slice oa m.length oc) = wf at HX6 HB6 HC6 ⊢
    obtain ⟨p0, p1⟩ := pair_cells HX6.out
    exact bodyPost_ret (v := .tuple #[.agg #[.slice va 4 vc, .slice oa m.length oc], .int .i64 0]) (by simp [results, Tryz.results107, go_sem, p0, p1]) rfl ⟨va, 4, vc, oa, m.length, oc, 0, rfl, HB6.out, fun _ => ⟨rfl, HC6.out⟩⟩
  obtain ⟨b', off', e, hbs, hcc⟩ := HStr.out.2 k hlt
  injection e with e
  injection e with e1 e2
  subst e1 e2
  rw [Nat.zero_add] at hcc
  have hi8 := HI8.out k hlt
  obtain ⟨s, hs⟩ : ∃ s, s = L.getD k ⟨#[]⟩ := ⟨_, rfl⟩
  rw [← hs] at hcc hi8
  clear hs
  have hgn : g ≠ nb := by
   intro e
   rw [e, cell_of_row _ _ _ _ _ _ HN2.out] at hcc
   have hk2 : k < 2 := (Array.getElem?_eq_some_iff.1 hcc).1
   rcases (by omega : k = 0 ∨ k = 1) with rfl | rfl
   ·simp at hcc
   ·simp at hcc
  have HCell : Hid (∀ z, ClrI w w2 z nb cd k → z.cell? ⟨g, k, none⟩ = some (.string s)) := fun z hz => (World.cell?_of_block (a := ⟨g, k, none⟩) (hz.kept g hbs hgn)).trans hcc
  have hki : (k : Int) < (L.length : Int) := by omega
  have hk0 : decide ((k : Int) < 0) = false := decide_eq_false (by omega)
  have hk00 : ¬ ((k : Int) < 0) := by omega
  obtain ⟨u, hue⟩ : ∃ u, levTo s l l.length = u := ⟨_, rfl⟩
  have hu0 := levTo_pos s l l.length
  have hu1 := cart_level HC.out s l.length (Nat.le_refl _)
  rw [hue] at hu0 hu1
  have hwu : IntKind.i64.wrap (u + 1) = u + 1 := IntWalk.i64_in _ (by omega)
  have HU := Lib.hid hue
  clear hcc hue
  have hS : wr.drew.cell? ⟨w.heap.size, 0, none⟩ = some (.slice av 4 cv) ∧ wr.drew.cell? ⟨w.heap.size, 1, none⟩ = some (.slice ao l.length co) ∧ wr.drew.cell? ⟨g, k, none⟩ = some (.string s) := ⟨(pair_cells HX.out).1, (pair_cells HX.out).2, HCell.out wr HI.out⟩
  go_wp2_with fail
  refine wp_region_held_drew (S := fun w' => w'.cell? ⟨w.heap.size, 0, none⟩ = some (.slice av 4 cv) ∧ w'.cell? ⟨w.heap.size, 1, none⟩ = some (.slice ao l.length co) ∧ w'.cell? ⟨g, k, none⟩ = some (.string s)) (by kernel_rfl) hS (fun hHeld => ?_)
  refine tj 0 ?_
  refine tj 1 ?_
  refine tj 2 ?_
  refine tj 3 ?_
  refine tj 4 ?_
  refine rk 5 rfl (fun K hK => ?_)
  go_simp
  go_at_call 37
  refine (l5Saved wr.drew B av ao 4 cv l.length co xs l s ((HOw.out.below HI.out.bel hB).kept (w' := wr.drew) fun _ _ => rfl) (by show B ≤ wr.heap.size; omega) (by omega) HC.out).mono ?_
  rintro e z1 ⟨rfl, hbz⟩
  have hz1 : Below wr.heap.size wr z1 := Below.mk hbz.os hbz.tape hbz.output hbz.size hbz.block
  have HI1 := Lib.hid (HI.out.step (by omega) hz1)
  have hsr1 := HI1.out.size
  have HX1 := Lib.hid ((HI1.out.kept w.heap.size (by omega) (by omega)).trans HT2.out.fst)
  have HR1 := Lib.hid ((HI1.out.kept (w.heap.size + 1) (by omega) (by omega)).trans HT2.out.snd)
  have hS1 : z1.cell? ⟨w.heap.size, 0, none⟩ = some (.slice av 4 cv) ∧ z1.cell? ⟨w.heap.size, 1, none⟩ = some (.slice ao l.length co) ∧ z1.cell? ⟨g, k, none⟩ = some (.string s) := ⟨(pair_cells HX1.out).1, (pair_cells HX1.out).2, HCell.out z1 HI1.out⟩
  generalize decide ((bestTo plcB s l l.length).kind = 4) = sv
  clear hz1 hbz HX HR hS
  refine hK.out _ _ hS1 (fun hHeld2 => ?_)
  clear hK K
  (try simp only [Act.put, u1, u2, u3])
  refine wpAnyH_done (by kernel_rfl) ?_ _
  clear hHeld hHeld2 HI
  cases sv
  rotate_left
  ·go_wp2
   go_roundw
   case rel => exact ⟨k + 1, _, by omega, rfl, by go_num, HI1.out.more (by omega)⟩
   case measure => simp [intOf]; omega
  obtain ⟨zs, m, va, vc, oa, oc, he, hi, ho, c1, c2, hBn, hcode⟩ := HI1.out.now
  have HE := Lib.hid he
  have HVi := Lib.hid hi
  have HOi := Lib.hid ho
  have HC1 := Lib.hid c1
  have HC2 := Lib.hid c2
  have HBd := Lib.hid hBn
  obtain ⟨okk, zs', m', hput⟩ := l6PutAny zs m d (160 + k) (by omega) ⟨0, 0, 0, 3, s, 0, u + 1, 0⟩ HBd.out hd (by show s.size ≤ 1048576; omega)
  dsimp only at hput
  have HPut := Lib.hid hput
  clear he hi ho c1 c2 hBn hcode hput hS1
  go_upto_region 8 with fail
  obtain ⟨y0, hy0e⟩ : ∃ y0, z1.drew = y0 := ⟨_, rfl⟩
  have hy0 : Below z1.heap.size z1 y0 := by rw [← hy0e]; exact ⟨rfl, rfl, rfl, Nat.le_refl _, fun _ _ => rfl⟩
  have Sy0 : y0.cell? ⟨w.heap.size, 0, none⟩ = some (.slice av 4 cv) ∧ y0.cell? ⟨w.heap.size, 1, none⟩ = some (.slice ao l.length co) ∧ y0.cell? ⟨g, k, none⟩ = some (.string s) ∧ y0.cell? ⟨nb, 0, none⟩ = some (.slice va 4 vc) ∧ y0.cell? ⟨nb, 1, none⟩ = some (.slice oa m.length oc) := by
   have hII := HI1.out.step (by omega) hy0
   exact ⟨(pair_cells ((hII.kept w.heap.size (by omega) (by omega)).trans HT2.out.fst)).1, (pair_cells ((hII.kept w.heap.size (by omega) (by omega)).trans HT2.out.fst)).2, HCell.out _ hII, (hy0.cell (block_lt_of_cell (pair_cells HE.out).1)).trans (pair_cells HE.out).1, (hy0.cell (block_lt_of_cell (pair_cells HE.out).2)).trans (pair_cells HE.out).2⟩
  refine wp_region_held_drew (S := fun w' => w'.cell? ⟨w.heap.size, 0, none⟩ = some (.slice av 4 cv) ∧ w'.cell? ⟨w.heap.size, 1, none⟩ = some (.slice ao l.length co) ∧ w'.cell? ⟨g, k, none⟩ = some (.string s) ∧ w'.cell? ⟨nb, 0, none⟩ = some (.slice va 4 vc) ∧ w'.cell? ⟨nb, 1, none⟩ = some (.slice oa m.length oc)) (by kernel_rfl) (by rw [hy0e]; exact Sy0) (fun hHeld => ?_)
  rw [hy0e]
  clear hHeld hy0e
  refine tj 0 ?_
  refine tj 1 ?_
  refine tj 2 ?_
  refine tj 3 ?_
  refine tj 4 ?_
  refine tj 5 ?_
  refine tj 6 ?_
  refine tj 7 ?_
  refine tj 8 ?_
  refine tj 9 ?_
  refine tj 10 ?_
  refine wpAnyH_ready (rs := [11, 18]) (by kernel_rfl) (by simp) ?_
  refine (AllReadyH.cons rfl (fun K hK => ?_) (AllReadyH.cons rfl (fun K hK => ?_) AllReadyH.nil))
  ·skip
   go_simp
   go_at_call 103
   refine (l5Level y0 B av ao 4 cv l.length co xs l s (HOw.out.below (HI1.out.bel.trans (hy0.mono (by omega))) hB) (by have := hy0.size; omega) (by omega) HC.out).mono ?_
   rw [HU.out]
   rintro e y1 ⟨rfl, hbc⟩
   have hy1 : Below z1.heap.size z1 y1 := hy0.trans (hbc.mono hy0.size)
   have Sy1 : y1.cell? ⟨w.heap.size, 0, none⟩ = some (.slice av 4 cv) ∧ y1.cell? ⟨w.heap.size, 1, none⟩ = some (.slice ao l.length co) ∧ y1.cell? ⟨g, k, none⟩ = some (.string s) ∧ y1.cell? ⟨nb, 0, none⟩ = some (.slice va 4 vc) ∧ y1.cell? ⟨nb, 1, none⟩ = some (.slice oa m.length oc) := by
    have hII := HI1.out.step (by omega) hy1
    exact ⟨(pair_cells ((hII.kept w.heap.size (by omega) (by omega)).trans HT2.out.fst)).1, (pair_cells ((hII.kept w.heap.size (by omega) (by omega)).trans HT2.out.fst)).2, HCell.out _ hII, (hy1.cell (block_lt_of_cell (pair_cells HE.out).1)).trans (pair_cells HE.out).1, (hy1.cell (block_lt_of_cell (pair_cells HE.out).2)).trans (pair_cells HE.out).2⟩
   refine hK.out _ _ Sy1 (fun hHeldC => ?_)
   clear hK K hHeldC hbc
   (try simp only [Act.put, u1, u2, u3])
   refine tj 12 ?_
   refine tj 13 ?_
   refine wpAnyH_ready (rs := [14, 18]) (by kernel_rfl) (by simp) ?_
   refine (AllReadyH.cons rfl (fun K hK => ?_) (AllReadyH.cons rfl (fun K hK => ?_) AllReadyH.nil))
   ·skip
    go_simp
    go_at_call 112
    refine (HPut.out.2 y1 y1.heap.size va oa vc oc ((HVi.out.below hy1 (Nat.le_refl _)).more hy1.size) ((HOi.out.below hy1 (Nat.le_refl _)).more hy1.size) (Nat.le_refl _) HC1.out HC2.out).mono ?_
    rintro e y2 ⟨pva, pvc, poa, poc, rfl, hov, hop, hbc, d1, d2⟩
    have hy2 : Below z1.heap.size z1 y2 := hy1.trans (hbc.mono hy1.size)
    have Sy2 : y2.cell? ⟨w.heap.size, 0, none⟩ = some (.slice av 4 cv) ∧ y2.cell? ⟨w.heap.size, 1, none⟩ = some (.slice ao l.length co) ∧ y2.cell? ⟨g, k, none⟩ = some (.string s) ∧ y2.cell? ⟨nb, 0, none⟩ = some (.slice va 4 vc) ∧ y2.cell? ⟨nb, 1, none⟩ = some (.slice oa m.length oc) := by
     have hII := HI1.out.step (by omega) hy2
     exact ⟨(pair_cells ((hII.kept w.heap.size (by omega) (by omega)).trans HT2.out.fst)).1, (pair_cells ((hII.kept w.heap.size (by omega) (by omega)).trans HT2.out.fst)).2, HCell.out _ hII, (hy2.cell (block_lt_of_cell (pair_cells HE.out).1)).trans (pair_cells HE.out).1, (hy2.cell (block_lt_of_cell (pair_cells HE.out).2)).trans (pair_cells HE.out).2⟩
    have hvy2 := Lib.hid hov
    have hoy2 := Lib.hid hop
    have HD1 := Lib.hid d1
    have HD2 := Lib.hid d2
    have hpz := hbc.size
    refine hK.out _ _ Sy2 (fun hHeldP => ?_)
    clear hK K hHeldP hbc hov hop d1 d2
    (try simp only [Act.put, u1, u2, u3])
    refine tj 15 ?_
    refine tj 16 ?_
    refine tj 17 ?_
    refine wpAnyH_ready (rs := [18]) (by kernel_rfl) (by simp) ?_
    refine (AllReadyH.cons rfl (fun K hK => ?_) AllReadyH.nil)
    have hal : Below y2.heap.size y2 (y2.alloc (.cells #[.slice none 0 0, .slice none 0 0] 49)) := bl
    have hxn := boxAt (Below.refl _ (y2.alloc (.cells #[.slice none 0 0, .slice none 0 0] 49)))
    have hxs : y2.heap.size < (y2.alloc (.cells #[.slice none 0 0, .slice none 0 0] 49)).heap.size := by show _ < (y2.heap.push _).size; simp
    have hga : Below z1.heap.size z1 (y2.alloc (.cells #[.slice none 0 0, .slice none 0 0] 49)) := hy2.trans (hal.mono hy2.size)
    have SA : (y2.alloc (.cells #[.slice none 0 0, .slice none 0 0] 49)).cell? ⟨w.heap.size, 0, none⟩ = some (.slice av 4 cv) ∧ (y2.alloc (.cells #[.slice none 0 0, .slice none 0 0] 49)).cell? ⟨w.heap.size, 1, none⟩ = some (.slice ao l.length co) ∧ (y2.alloc (.cells #[.slice none 0 0, .slice none 0 0] 49)).cell? ⟨g, k, none⟩ = some (.string s) ∧ (y2.alloc (.cells #[.slice none 0 0, .slice none 0 0] 49)).cell? ⟨nb, 0, none⟩ = some (.slice va 4 vc) ∧ (y2.alloc (.cells #[.slice none 0 0, .slice none 0 0] 49)).cell? ⟨nb, 1, none⟩ = some (.slice oa m.length oc) := by
     have hII := HI1.out.step (by omega) hga
     exact ⟨(pair_cells ((hII.kept w.heap.size (by omega) (by omega)).trans HT2.out.fst)).1, (pair_cells ((hII.kept w.heap.size (by omega) (by omega)).trans HT2.out.fst)).2, HCell.out _ hII, (hga.cell (block_lt_of_cell (pair_cells HE.out).1)).trans (pair_cells HE.out).1, (hga.cell (block_lt_of_cell (pair_cells HE.out).2)).trans (pair_cells HE.out).2⟩
    go_simp
    refine hK.out _ _ SA (fun hHeldA => ?_)
    clear hK K hHeldA
    (try simp only [Act.put, u1, u2, u3])
    generalize hzn : y2.alloc (.cells #[.slice none 0 0, .slice none 0 0] 49) = y3 at hal hxn hxs ⊢
    clear hzn SA hga
    have hy3 : Below z1.heap.size z1 y3 := hy2.trans (hal.mono hy2.size)
    have Sy3 : y3.cell? ⟨w.heap.size, 0, none⟩ = some (.slice av 4 cv) ∧ y3.cell? ⟨w.heap.size, 1, none⟩ = some (.slice ao l.length co) ∧ y3.cell? ⟨g, k, none⟩ = some (.string s) ∧ y3.cell? ⟨nb, 0, none⟩ = some (.slice va 4 vc) ∧ y3.cell? ⟨nb, 1, none⟩ = some (.slice oa m.length oc) := by
     have hII := HI1.out.step (by omega) hy3
     exact ⟨(pair_cells ((hII.kept w.heap.size (by omega) (by omega)).trans HT2.out.fst)).1, (pair_cells ((hII.kept w.heap.size (by omega) (by omega)).trans HT2.out.fst)).2, HCell.out _ hII, (hy3.cell (block_lt_of_cell (pair_cells HE.out).1)).trans (pair_cells HE.out).1, (hy3.cell (block_lt_of_cell (pair_cells HE.out).2)).trans (pair_cells HE.out).2⟩
    have hvy3 := Lib.hid (hvy2.out.below hal (by omega))
    have hoy3 := Lib.hid (hoy2.out.below hal (by omega))
    have hxy3 := Lib.hid hxn
    have hly3 := hxs
    clear hxn hxs hal
    have hq1 := hy2.size
    have hq2 := hy1.size
    obtain ⟨HNn, HVn, HOn, hzn, hzs⟩ := crtStore (.slice pva zs'.length pvc) (.slice poa m'.length poc) hy3 hxy3.out hq1 (by first | exact .inr (Nat.le_refl _) | (left; omega) | (right; omega)) hvy3.out hoy3.out
    obtain ⟨d0, d1⟩ := pair_cells hxy3.out
    obtain ⟨f0, f1⟩ := pair_frozen hxy3.out
    have SW : ((y3.setCell ⟨y2.heap.size, 0, none⟩ (.slice pva zs'.length pvc)).setCell ⟨y2.heap.size, 1, none⟩ (.slice poa m'.length poc)).cell? ⟨w.heap.size, 0, none⟩ = some (.slice av 4 cv) ∧ ((y3.setCell ⟨y2.heap.size, 0, none⟩ (.slice pva zs'.length pvc)).setCell ⟨y2.heap.size, 1, none⟩ (.slice poa m'.length poc)).cell? ⟨w.heap.size, 1, none⟩ = some (.slice ao l.length co) ∧ ((y3.setCell ⟨y2.heap.size, 0, none⟩ (.slice pva zs'.length pvc)).setCell ⟨y2.heap.size, 1, none⟩ (.slice poa m'.length poc)).cell? ⟨g, k, none⟩ = some (.string s) ∧ ((y3.setCell ⟨y2.heap.size, 0, none⟩ (.slice pva zs'.length pvc)).setCell ⟨y2.heap.size, 1, none⟩ (.slice poa m'.length poc)).cell? ⟨nb, 0, none⟩ = some (.slice va 4 vc) ∧ ((y3.setCell ⟨y2.heap.size, 0, none⟩ (.slice pva zs'.length pvc)).setCell ⟨y2.heap.size, 1, none⟩ (.slice poa m'.length poc)).cell? ⟨nb, 1, none⟩ = some (.slice oa m.length oc) := by
     have hII := HI1.out.step (by omega) hzn
     exact ⟨(pair_cells ((hII.kept w.heap.size (by omega) (by omega)).trans HT2.out.fst)).1, (pair_cells ((hII.kept w.heap.size (by omega) (by omega)).trans HT2.out.fst)).2, HCell.out _ hII, (hzn.cell (block_lt_of_cell (pair_cells HE.out).1)).trans (pair_cells HE.out).1, (hzn.cell (block_lt_of_cell (pair_cells HE.out).2)).trans (pair_cells HE.out).2⟩
    refine rk 19 rfl (fun K hK => ?_)
    go_simp
    refine hK.out _ _ SW (fun hHeldB => ?_)
    clear hK K hHeldB d0 d1 f0 f1 SW
    (try simp only [Act.put, u1, u2, u3])
    generalize (y3.setCell ⟨y2.heap.size, 0, none⟩ (.slice pva zs'.length pvc)).setCell ⟨y2.heap.size, 1, none⟩ (.slice poa m'.length poc) = zn at HNn HVn HOn hzn hzs ⊢
    have Szn : zn.cell? ⟨w.heap.size, 0, none⟩ = some (.slice av 4 cv) ∧ zn.cell? ⟨w.heap.size, 1, none⟩ = some (.slice ao l.length co) ∧ zn.cell? ⟨g, k, none⟩ = some (.string s) ∧ zn.cell? ⟨nb, 0, none⟩ = some (.slice va 4 vc) ∧ zn.cell? ⟨nb, 1, none⟩ = some (.slice oa m.length oc) := by
     have hII := HI1.out.step (by omega) hzn
     exact ⟨(pair_cells ((hII.kept w.heap.size (by omega) (by omega)).trans HT2.out.fst)).1, (pair_cells ((hII.kept w.heap.size (by omega) (by omega)).trans HT2.out.fst)).2, HCell.out _ hII, (hzn.cell (block_lt_of_cell (pair_cells HE.out).1)).trans (pair_cells HE.out).1, (hzn.cell (block_lt_of_cell (pair_cells HE.out).2)).trans (pair_cells HE.out).2⟩
    refine tj 20 ?_
    refine wpAnyH_done (by kernel_rfl) ?_ _
    have HIn := Lib.hid (HI1.out.step (by omega) hzn)
    have hsrn := HIn.out.size
    have HXn := Lib.hid ((HIn.out.kept w.heap.size (by omega) (by omega)).trans HT2.out.fst)
    have HRn := Lib.hid ((HIn.out.kept (w.heap.size + 1) (by omega) (by omega)).trans HT2.out.snd)
    cases okk
    ·skip
     obtain ⟨r0, r1⟩ := pair_cells HRn.out
     obtain ⟨f0, f1⟩ := pair_frozen HRn.out
     have HX6 := Lib.hid (pair_set (.slice none 0 0) (.slice none 0 0) HRn.out)
     have HB6 : Hid (Below w.heap.size w ((zn.setCell ⟨w.heap.size + 1, 0, none⟩ (.slice none 0 0)).setCell ⟨w.heap.size + 1, 1, none⟩ (.slice none 0 0))) := HIn.out.bel.trans ((below_set2 zn (w.heap.size + 1) 0 1 _ _).mono (by omega))
     go_wp2
     generalize (zn.setCell ⟨w.heap.size + 1, 0, none⟩ (.slice none 0 0)).setCell ⟨w.heap.size + 1, 1, none⟩ (.slice none 0 0) = wf at HX6 HB6 ⊢
     obtain ⟨p0, p1⟩ := pair_cells HX6.out
     exact bodyPost_ret (v := .tuple #[.agg #[.slice none 0 0, .slice none 0 0], .int .i64 4]) (by simp [results, Tryz.results107, go_sem, p0, p1]) rfl ⟨none, 0, 0, none, 0, 0, 4, rfl, HB6.out, fun h => absurd h (by omega)⟩
    have hbd := HPut.out.1 rfl
    have HD1 := HD1
    rw [hbd.len] at HNn HVn HD1 ⊢
    obtain ⟨x0, x1⟩ := pair_cells HNn.out
    obtain ⟨n0, n1⟩ := pair_cells ((hzn.block nb (by have := lt_of_row HE.out; omega)).trans HE.out)
    obtain ⟨fn0, fn1⟩ := pair_frozen ((hzn.block nb (by have := lt_of_row HE.out; omega)).trans HE.out)
    have HIp := Lib.hid (HIn.out.put (k' := k + 1) (by omega) HVn.out HOn.out (by omega) (by omega) HD1.out HD2.out hbd)
    clear hbd
    go_wp2
    go_roundw
    case rel => exact ⟨k + 1, _, by omega, rfl, by go_num, HIp⟩
    case measure => simp [intOf]; omega
   ·skip
    have hal : Below y1.heap.size y1 (y1.alloc (.cells #[.slice none 0 0, .slice none 0 0] 49)) := bl
    have hxn := boxAt (Below.refl _ (y1.alloc (.cells #[.slice none 0 0, .slice none 0 0] 49)))
    have hxs : y1.heap.size < (y1.alloc (.cells #[.slice none 0 0, .slice none 0 0] 49)).heap.size := by show _ < (y1.heap.push _).size; simp
    have hga : Below z1.heap.size z1 (y1.alloc (.cells #[.slice none 0 0, .slice none 0 0] 49)) := hy1.trans (hal.mono hy1.size)
    have SA : (y1.alloc (.cells #[.slice none 0 0, .slice none 0 0] 49)).cell? ⟨w.heap.size, 0, none⟩ = some (.slice av 4 cv) ∧ (y1.alloc (.cells #[.slice none 0 0, .slice none 0 0] 49)).cell? ⟨w.heap.size, 1, none⟩ = some (.slice ao l.length co) ∧ (y1.alloc (.cells #[.slice none 0 0, .slice none 0 0] 49)).cell? ⟨g, k, none⟩ = some (.string s) ∧ (y1.alloc (.cells #[.slice none 0 0, .slice none 0 0] 49)).cell? ⟨nb, 0, none⟩ = some (.slice va 4 vc) ∧ (y1.alloc (.cells #[.slice none 0 0, .slice none 0 0] 49)).cell? ⟨nb, 1, none⟩ = some (.slice oa m.length oc) := by
     have hII := HI1.out.step (by omega) hga
     exact ⟨(pair_cells ((hII.kept w.heap.size (by omega) (by omega)).trans HT2.out.fst)).1, (pair_cells ((hII.kept w.heap.size (by omega) (by omega)).trans HT2.out.fst)).2, HCell.out _ hII, (hga.cell (block_lt_of_cell (pair_cells HE.out).1)).trans (pair_cells HE.out).1, (hga.cell (block_lt_of_cell (pair_cells HE.out).2)).trans (pair_cells HE.out).2⟩
    go_simp
    refine hK.out _ _ SA (fun hHeldA => ?_)
    clear hK K hHeldA
    (try simp only [Act.put, u1, u2, u3])
    generalize hzn : y1.alloc (.cells #[.slice none 0 0, .slice none 0 0] 49) = y4 at hal hxn hxs ⊢
    clear hzn SA hga
    have hy4 : Below z1.heap.size z1 y4 := hy1.trans (hal.mono hy1.size)
    have Sy4 : y4.cell? ⟨w.heap.size, 0, none⟩ = some (.slice av 4 cv) ∧ y4.cell? ⟨w.heap.size, 1, none⟩ = some (.slice ao l.length co) ∧ y4.cell? ⟨g, k, none⟩ = some (.string s) ∧ y4.cell? ⟨nb, 0, none⟩ = some (.slice va 4 vc) ∧ y4.cell? ⟨nb, 1, none⟩ = some (.slice oa m.length oc) := by
     have hII := HI1.out.step (by omega) hy4
     exact ⟨(pair_cells ((hII.kept w.heap.size (by omega) (by omega)).trans HT2.out.fst)).1, (pair_cells ((hII.kept w.heap.size (by omega) (by omega)).trans HT2.out.fst)).2, HCell.out _ hII, (hy4.cell (block_lt_of_cell (pair_cells HE.out).1)).trans (pair_cells HE.out).1, (hy4.cell (block_lt_of_cell (pair_cells HE.out).2)).trans (pair_cells HE.out).2⟩
    have hxy4 := Lib.hid hxn
    have hly4 := hxs
    clear hxn hxs hal
    refine wpAnyH_ready (rs := [14]) (by kernel_rfl) (by simp) ?_
    refine (AllReadyH.cons rfl (fun K hK => ?_) AllReadyH.nil)
    go_simp
    go_at_call 112
    refine (HPut.out.2 y4 y4.heap.size va oa vc oc ((HVi.out.below hy4 (Nat.le_refl _)).more hy4.size) ((HOi.out.below hy4 (Nat.le_refl _)).more hy4.size) (Nat.le_refl _) HC1.out HC2.out).mono ?_
    rintro e y5 ⟨pva, pvc, poa, poc, rfl, hov, hop, hbc, d1, d2⟩
    have hy5 : Below z1.heap.size z1 y5 := hy4.trans (hbc.mono hy4.size)
    have Sy5 : y5.cell? ⟨w.heap.size, 0, none⟩ = some (.slice av 4 cv) ∧ y5.cell? ⟨w.heap.size, 1, none⟩ = some (.slice ao l.length co) ∧ y5.cell? ⟨g, k, none⟩ = some (.string s) ∧ y5.cell? ⟨nb, 0, none⟩ = some (.slice va 4 vc) ∧ y5.cell? ⟨nb, 1, none⟩ = some (.slice oa m.length oc) := by
     have hII := HI1.out.step (by omega) hy5
     exact ⟨(pair_cells ((hII.kept w.heap.size (by omega) (by omega)).trans HT2.out.fst)).1, (pair_cells ((hII.kept w.heap.size (by omega) (by omega)).trans HT2.out.fst)).2, HCell.out _ hII, (hy5.cell (block_lt_of_cell (pair_cells HE.out).1)).trans (pair_cells HE.out).1, (hy5.cell (block_lt_of_cell (pair_cells HE.out).2)).trans (pair_cells HE.out).2⟩
    have hxy5 := Lib.hid ((hbc.block _ (Array.getElem?_eq_some_iff.1 hxy4.out).1).trans hxy4.out)
    have hly5 := lt_of_row hxy5.out
    have hvy5 := Lib.hid hov
    have hoy5 := Lib.hid hop
    have HD1 := Lib.hid d1
    have HD2 := Lib.hid d2
    have hpz := hbc.size
    refine hK.out _ _ Sy5 (fun hHeldP => ?_)
    clear hK K hHeldP hbc hov hop d1 d2
    (try simp only [Act.put, u1, u2, u3])
    refine tj 15 ?_
    refine tj 16 ?_
    refine tj 17 ?_
    have hq1 := hy1.size
    have hq2 := hy4.size
    obtain ⟨HNn, HVn, HOn, hzn, hzs⟩ := crtStore (.slice pva zs'.length pvc) (.slice poa m'.length poc) hy5 hxy5.out hq1 (by first | exact .inr (Nat.le_refl _) | (left; omega) | (right; omega)) hvy5.out hoy5.out
    obtain ⟨d0, d1⟩ := pair_cells hxy5.out
    obtain ⟨f0, f1⟩ := pair_frozen hxy5.out
    have SW : ((y5.setCell ⟨y1.heap.size, 0, none⟩ (.slice pva zs'.length pvc)).setCell ⟨y1.heap.size, 1, none⟩ (.slice poa m'.length poc)).cell? ⟨w.heap.size, 0, none⟩ = some (.slice av 4 cv) ∧ ((y5.setCell ⟨y1.heap.size, 0, none⟩ (.slice pva zs'.length pvc)).setCell ⟨y1.heap.size, 1, none⟩ (.slice poa m'.length poc)).cell? ⟨w.heap.size, 1, none⟩ = some (.slice ao l.length co) ∧ ((y5.setCell ⟨y1.heap.size, 0, none⟩ (.slice pva zs'.length pvc)).setCell ⟨y1.heap.size, 1, none⟩ (.slice poa m'.length poc)).cell? ⟨g, k, none⟩ = some (.string s) ∧ ((y5.setCell ⟨y1.heap.size, 0, none⟩ (.slice pva zs'.length pvc)).setCell ⟨y1.heap.size, 1, none⟩ (.slice poa m'.length poc)).cell? ⟨nb, 0, none⟩ = some (.slice va 4 vc) ∧ ((y5.setCell ⟨y1.heap.size, 0, none⟩ (.slice pva zs'.length pvc)).setCell ⟨y1.heap.size, 1, none⟩ (.slice poa m'.length poc)).cell? ⟨nb, 1, none⟩ = some (.slice oa m.length oc) := by
     have hII := HI1.out.step (by omega) hzn
     exact ⟨(pair_cells ((hII.kept w.heap.size (by omega) (by omega)).trans HT2.out.fst)).1, (pair_cells ((hII.kept w.heap.size (by omega) (by omega)).trans HT2.out.fst)).2, HCell.out _ hII, (hzn.cell (block_lt_of_cell (pair_cells HE.out).1)).trans (pair_cells HE.out).1, (hzn.cell (block_lt_of_cell (pair_cells HE.out).2)).trans (pair_cells HE.out).2⟩
    refine rk 19 rfl (fun K hK => ?_)
    go_simp
    refine hK.out _ _ SW (fun hHeldB => ?_)
    clear hK K hHeldB d0 d1 f0 f1 SW
    (try simp only [Act.put, u1, u2, u3])
    generalize (y5.setCell ⟨y1.heap.size, 0, none⟩ (.slice pva zs'.length pvc)).setCell ⟨y1.heap.size, 1, none⟩ (.slice poa m'.length poc) = zn at HNn HVn HOn hzn hzs ⊢
    have Szn : zn.cell? ⟨w.heap.size, 0, none⟩ = some (.slice av 4 cv) ∧ zn.cell? ⟨w.heap.size, 1, none⟩ = some (.slice ao l.length co) ∧ zn.cell? ⟨g, k, none⟩ = some (.string s) ∧ zn.cell? ⟨nb, 0, none⟩ = some (.slice va 4 vc) ∧ zn.cell? ⟨nb, 1, none⟩ = some (.slice oa m.length oc) := by
     have hII := HI1.out.step (by omega) hzn
     exact ⟨(pair_cells ((hII.kept w.heap.size (by omega) (by omega)).trans HT2.out.fst)).1, (pair_cells ((hII.kept w.heap.size (by omega) (by omega)).trans HT2.out.fst)).2, HCell.out _ hII, (hzn.cell (block_lt_of_cell (pair_cells HE.out).1)).trans (pair_cells HE.out).1, (hzn.cell (block_lt_of_cell (pair_cells HE.out).2)).trans (pair_cells HE.out).2⟩
    refine tj 20 ?_
    refine wpAnyH_done (by kernel_rfl) ?_ _
    have HIn := Lib.hid (HI1.out.step (by omega) hzn)
    have hsrn := HIn.out.size
    have HXn := Lib.hid ((HIn.out.kept w.heap.size (by omega) (by omega)).trans HT2.out.fst)
    have HRn := Lib.hid ((HIn.out.kept (w.heap.size + 1) (by omega) (by omega)).trans HT2.out.snd)
    cases okk
    ·skip
     obtain ⟨r0, r1⟩ := pair_cells HRn.out
     obtain ⟨f0, f1⟩ := pair_frozen HRn.out
     have HX6 := Lib.hid (pair_set (.slice none 0 0) (.slice none 0 0) HRn.out)
     have HB6 : Hid (Below w.heap.size w ((zn.setCell ⟨w.heap.size + 1, 0, none⟩ (.slice none 0 0)).setCell ⟨w.heap.size + 1, 1, none⟩ (.slice none 0 0))) := HIn.out.bel.trans ((below_set2 zn (w.heap.size + 1) 0 1 _ _).mono (by omega))
     go_wp2
     generalize (zn.setCell ⟨w.heap.size + 1, 0, none⟩ (.slice none 0 0)).setCell ⟨w.heap.size + 1, 1, none⟩ (.slice none 0 0) = wf at HX6 HB6 ⊢
     obtain ⟨p0, p1⟩ := pair_cells HX6.out
     exact bodyPost_ret (v := .tuple #[.agg #[.slice none 0 0, .slice none 0 0], .int .i64 4]) (by simp [results, Tryz.results107, go_sem, p0, p1]) rfl ⟨none, 0, 0, none, 0, 0, 4, rfl, HB6.out, fun h => absurd h (by omega)⟩
    have hbd := HPut.out.1 rfl
    have HD1 := HD1
    rw [hbd.len] at HNn HVn HD1 ⊢
    obtain ⟨x0, x1⟩ := pair_cells HNn.out
    obtain ⟨n0, n1⟩ := pair_cells ((hzn.block nb (by have := lt_of_row HE.out; omega)).trans HE.out)
    obtain ⟨fn0, fn1⟩ := pair_frozen ((hzn.block nb (by have := lt_of_row HE.out; omega)).trans HE.out)
    have HIp := Lib.hid (HIn.out.put (k' := k + 1) (by omega) HVn.out HOn.out (by omega) (by omega) HD1.out HD2.out hbd)
    clear hbd
    go_wp2
    go_roundw
    case rel => exact ⟨k + 1, _, by omega, rfl, by go_num, HIp⟩
    case measure => simp [intOf]; omega
  ·skip
   have hal : Below y0.heap.size y0 (y0.alloc (.cells #[.slice none 0 0, .slice none 0 0] 49)) := bl
   have hxn := boxAt (Below.refl _ (y0.alloc (.cells #[.slice none 0 0, .slice none 0 0] 49)))
   have hxs : y0.heap.size < (y0.alloc (.cells #[.slice none 0 0, .slice none 0 0] 49)).heap.size := by show _ < (y0.heap.push _).size; simp
   have hga : Below z1.heap.size z1 (y0.alloc (.cells #[.slice none 0 0, .slice none 0 0] 49)) := hy0.trans (hal.mono hy0.size)
   have SA : (y0.alloc (.cells #[.slice none 0 0, .slice none 0 0] 49)).cell? ⟨w.heap.size, 0, none⟩ = some (.slice av 4 cv) ∧ (y0.alloc (.cells #[.slice none 0 0, .slice none 0 0] 49)).cell? ⟨w.heap.size, 1, none⟩ = some (.slice ao l.length co) ∧ (y0.alloc (.cells #[.slice none 0 0, .slice none 0 0] 49)).cell? ⟨g, k, none⟩ = some (.string s) ∧ (y0.alloc (.cells #[.slice none 0 0, .slice none 0 0] 49)).cell? ⟨nb, 0, none⟩ = some (.slice va 4 vc) ∧ (y0.alloc (.cells #[.slice none 0 0, .slice none 0 0] 49)).cell? ⟨nb, 1, none⟩ = some (.slice oa m.length oc) := by
    have hII := HI1.out.step (by omega) hga
    exact ⟨(pair_cells ((hII.kept w.heap.size (by omega) (by omega)).trans HT2.out.fst)).1, (pair_cells ((hII.kept w.heap.size (by omega) (by omega)).trans HT2.out.fst)).2, HCell.out _ hII, (hga.cell (block_lt_of_cell (pair_cells HE.out).1)).trans (pair_cells HE.out).1, (hga.cell (block_lt_of_cell (pair_cells HE.out).2)).trans (pair_cells HE.out).2⟩
   go_simp
   refine hK.out _ _ SA (fun hHeldA => ?_)
   clear hK K hHeldA
   (try simp only [Act.put, u1, u2, u3])
   generalize hzn : y0.alloc (.cells #[.slice none 0 0, .slice none 0 0] 49) = y6 at hal hxn hxs ⊢
   clear hzn SA hga
   have hy6 : Below z1.heap.size z1 y6 := hy0.trans (hal.mono hy0.size)
   have Sy6 : y6.cell? ⟨w.heap.size, 0, none⟩ = some (.slice av 4 cv) ∧ y6.cell? ⟨w.heap.size, 1, none⟩ = some (.slice ao l.length co) ∧ y6.cell? ⟨g, k, none⟩ = some (.string s) ∧ y6.cell? ⟨nb, 0, none⟩ = some (.slice va 4 vc) ∧ y6.cell? ⟨nb, 1, none⟩ = some (.slice oa m.length oc) := by
    have hII := HI1.out.step (by omega) hy6
    exact ⟨(pair_cells ((hII.kept w.heap.size (by omega) (by omega)).trans HT2.out.fst)).1, (pair_cells ((hII.kept w.heap.size (by omega) (by omega)).trans HT2.out.fst)).2, HCell.out _ hII, (hy6.cell (block_lt_of_cell (pair_cells HE.out).1)).trans (pair_cells HE.out).1, (hy6.cell (block_lt_of_cell (pair_cells HE.out).2)).trans (pair_cells HE.out).2⟩
   have hxy6 := Lib.hid hxn
   have hly6 := hxs
   clear hxn hxs hal
   refine wpAnyH_ready (rs := [11]) (by kernel_rfl) (by simp) ?_
   refine (AllReadyH.cons rfl (fun K hK => ?_) AllReadyH.nil)
   go_simp
   go_at_call 103
   refine (l5Level y6 B av ao 4 cv l.length co xs l s (HOw.out.below (HI1.out.bel.trans (hy6.mono (by omega))) hB) (by have := hy6.size; omega) (by omega) HC.out).mono ?_
   rw [HU.out]
   rintro e y7 ⟨rfl, hbc⟩
   have hy7 : Below z1.heap.size z1 y7 := hy6.trans (hbc.mono hy6.size)
   have Sy7 : y7.cell? ⟨w.heap.size, 0, none⟩ = some (.slice av 4 cv) ∧ y7.cell? ⟨w.heap.size, 1, none⟩ = some (.slice ao l.length co) ∧ y7.cell? ⟨g, k, none⟩ = some (.string s) ∧ y7.cell? ⟨nb, 0, none⟩ = some (.slice va 4 vc) ∧ y7.cell? ⟨nb, 1, none⟩ = some (.slice oa m.length oc) := by
    have hII := HI1.out.step (by omega) hy7
    exact ⟨(pair_cells ((hII.kept w.heap.size (by omega) (by omega)).trans HT2.out.fst)).1, (pair_cells ((hII.kept w.heap.size (by omega) (by omega)).trans HT2.out.fst)).2, HCell.out _ hII, (hy7.cell (block_lt_of_cell (pair_cells HE.out).1)).trans (pair_cells HE.out).1, (hy7.cell (block_lt_of_cell (pair_cells HE.out).2)).trans (pair_cells HE.out).2⟩
   have hxy7 := Lib.hid ((hbc.block _ (Array.getElem?_eq_some_iff.1 hxy6.out).1).trans hxy6.out)
   have hly7 := lt_of_row hxy7.out
   refine hK.out _ _ Sy7 (fun hHeldC => ?_)
   clear hK K hHeldC hbc
   (try simp only [Act.put, u1, u2, u3])
   refine tj 12 ?_
   refine tj 13 ?_
   refine wpAnyH_ready (rs := [14]) (by kernel_rfl) (by simp) ?_
   refine (AllReadyH.cons rfl (fun K hK => ?_) AllReadyH.nil)
   go_simp
   go_at_call 112
   refine (HPut.out.2 y7 y7.heap.size va oa vc oc ((HVi.out.below hy7 (Nat.le_refl _)).more hy7.size) ((HOi.out.below hy7 (Nat.le_refl _)).more hy7.size) (Nat.le_refl _) HC1.out HC2.out).mono ?_
   rintro e y8 ⟨pva, pvc, poa, poc, rfl, hov, hop, hbc, d1, d2⟩
   have hy8 : Below z1.heap.size z1 y8 := hy7.trans (hbc.mono hy7.size)
   have Sy8 : y8.cell? ⟨w.heap.size, 0, none⟩ = some (.slice av 4 cv) ∧ y8.cell? ⟨w.heap.size, 1, none⟩ = some (.slice ao l.length co) ∧ y8.cell? ⟨g, k, none⟩ = some (.string s) ∧ y8.cell? ⟨nb, 0, none⟩ = some (.slice va 4 vc) ∧ y8.cell? ⟨nb, 1, none⟩ = some (.slice oa m.length oc) := by
    have hII := HI1.out.step (by omega) hy8
    exact ⟨(pair_cells ((hII.kept w.heap.size (by omega) (by omega)).trans HT2.out.fst)).1, (pair_cells ((hII.kept w.heap.size (by omega) (by omega)).trans HT2.out.fst)).2, HCell.out _ hII, (hy8.cell (block_lt_of_cell (pair_cells HE.out).1)).trans (pair_cells HE.out).1, (hy8.cell (block_lt_of_cell (pair_cells HE.out).2)).trans (pair_cells HE.out).2⟩
   have hxy8 := Lib.hid ((hbc.block _ (Array.getElem?_eq_some_iff.1 hxy7.out).1).trans hxy7.out)
   have hly8 := lt_of_row hxy8.out
   have hvy8 := Lib.hid hov
   have hoy8 := Lib.hid hop
   have HD1 := Lib.hid d1
   have HD2 := Lib.hid d2
   have hpz := hbc.size
   refine hK.out _ _ Sy8 (fun hHeldP => ?_)
   clear hK K hHeldP hbc hov hop d1 d2
   (try simp only [Act.put, u1, u2, u3])
   refine tj 15 ?_
   refine tj 16 ?_
   refine tj 17 ?_
   have hq1 := hy0.size
   have hq2 := hy7.size
   obtain ⟨HNn, HVn, HOn, hzn, hzs⟩ := crtStore (.slice pva zs'.length pvc) (.slice poa m'.length poc) hy8 hxy8.out hq1 (by first | exact .inr (Nat.le_refl _) | (left; omega) | (right; omega)) hvy8.out hoy8.out
   obtain ⟨d0, d1⟩ := pair_cells hxy8.out
   obtain ⟨f0, f1⟩ := pair_frozen hxy8.out
   have SW : ((y8.setCell ⟨y0.heap.size, 0, none⟩ (.slice pva zs'.length pvc)).setCell ⟨y0.heap.size, 1, none⟩ (.slice poa m'.length poc)).cell? ⟨w.heap.size, 0, none⟩ = some (.slice av 4 cv) ∧ ((y8.setCell ⟨y0.heap.size, 0, none⟩ (.slice pva zs'.length pvc)).setCell ⟨y0.heap.size, 1, none⟩ (.slice poa m'.length poc)).cell? ⟨w.heap.size, 1, none⟩ = some (.slice ao l.length co) ∧ ((y8.setCell ⟨y0.heap.size, 0, none⟩ (.slice pva zs'.length pvc)).setCell ⟨y0.heap.size, 1, none⟩ (.slice poa m'.length poc)).cell? ⟨g, k, none⟩ = some (.string s) ∧ ((y8.setCell ⟨y0.heap.size, 0, none⟩ (.slice pva zs'.length pvc)).setCell ⟨y0.heap.size, 1, none⟩ (.slice poa m'.length poc)).cell? ⟨nb, 0, none⟩ = some (.slice va 4 vc) ∧ ((y8.setCell ⟨y0.heap.size, 0, none⟩ (.slice pva zs'.length pvc)).setCell ⟨y0.heap.size, 1, none⟩ (.slice poa m'.length poc)).cell? ⟨nb, 1, none⟩ = some (.slice oa m.length oc) := by
    have hII := HI1.out.step (by omega) hzn
    exact ⟨(pair_cells ((hII.kept w.heap.size (by omega) (by omega)).trans HT2.out.fst)).1, (pair_cells ((hII.kept w.heap.size (by omega) (by omega)).trans HT2.out.fst)).2, HCell.out _ hII, (hzn.cell (block_lt_of_cell (pair_cells HE.out).1)).trans (pair_cells HE.out).1, (hzn.cell (block_lt_of_cell (pair_cells HE.out).2)).trans (pair_cells HE.out).2⟩
   refine rk 19 rfl (fun K hK => ?_)
   go_simp
   refine hK.out _ _ SW (fun hHeldB => ?_)
   clear hK K hHeldB d0 d1 f0 f1 SW
   (try simp only [Act.put, u1, u2, u3])
   generalize (y8.setCell ⟨y0.heap.size, 0, none⟩ (.slice pva zs'.length pvc)).setCell ⟨y0.heap.size, 1, none⟩ (.slice poa m'.length poc) = zn at HNn HVn HOn hzn hzs ⊢
   have Szn : zn.cell? ⟨w.heap.size, 0, none⟩ = some (.slice av 4 cv) ∧ zn.cell? ⟨w.heap.size, 1, none⟩ = some (.slice ao l.length co) ∧ zn.cell? ⟨g, k, none⟩ = some (.string s) ∧ zn.cell? ⟨nb, 0, none⟩ = some (.slice va 4 vc) ∧ zn.cell? ⟨nb, 1, none⟩ = some (.slice oa m.length oc) := by
    have hII := HI1.out.step (by omega) hzn
    exact ⟨(pair_cells ((hII.kept w.heap.size (by omega) (by omega)).trans HT2.out.fst)).1, (pair_cells ((hII.kept w.heap.size (by omega) (by omega)).trans HT2.out.fst)).2, HCell.out _ hII, (hzn.cell (block_lt_of_cell (pair_cells HE.out).1)).trans (pair_cells HE.out).1, (hzn.cell (block_lt_of_cell (pair_cells HE.out).2)).trans (pair_cells HE.out).2⟩
   refine tj 20 ?_
   refine wpAnyH_done (by kernel_rfl) ?_ _
   have HIn := Lib.hid (HI1.out.step (by omega) hzn)
   have hsrn := HIn.out.size
   have HXn := Lib.hid ((HIn.out.kept w.heap.size (by omega) (by omega)).trans HT2.out.fst)
   have HRn := Lib.hid ((HIn.out.kept (w.heap.size + 1) (by omega) (by omega)).trans HT2.out.snd)
   cases okk
   ·skip
    obtain ⟨r0, r1⟩ := pair_cells HRn.out
    obtain ⟨f0, f1⟩ := pair_frozen HRn.out
    have HX6 := Lib.hid (pair_set (.slice none 0 0) (.slice none 0 0) HRn.out)
    have HB6 : Hid (Below w.heap.size w ((zn.setCell ⟨w.heap.size + 1, 0, none⟩ (.slice none 0 0)).setCell ⟨w.heap.size + 1, 1, none⟩ (.slice none 0 0))) := HIn.out.bel.trans ((below_set2 zn (w.heap.size + 1) 0 1 _ _).mono (by omega))
    go_wp2
    generalize (zn.setCell ⟨w.heap.size + 1, 0, none⟩ (.slice none 0 0)).setCell ⟨w.heap.size + 1, 1, none⟩ (.slice none 0 0) = wf at HX6 HB6 ⊢
    obtain ⟨p0, p1⟩ := pair_cells HX6.out
    exact bodyPost_ret (v := .tuple #[.agg #[.slice none 0 0, .slice none 0 0], .int .i64 4]) (by simp [results, Tryz.results107, go_sem, p0, p1]) rfl ⟨none, 0, 0, none, 0, 0, 4, rfl, HB6.out, fun h => absurd h (by omega)⟩
   have hbd := HPut.out.1 rfl
   have HD1 := HD1
   rw [hbd.len] at HNn HVn HD1 ⊢
   obtain ⟨x0, x1⟩ := pair_cells HNn.out
   obtain ⟨n0, n1⟩ := pair_cells ((hzn.block nb (by have := lt_of_row HE.out; omega)).trans HE.out)
   obtain ⟨fn0, fn1⟩ := pair_frozen ((hzn.block nb (by have := lt_of_row HE.out; omega)).trans HE.out)
   have HIp := Lib.hid (HIn.out.put (k' := k + 1) (by omega) HVn.out HOn.out (by omega) (by omega) HD1.out HD2.out hbd)
   clear hbd
   go_wp2
   go_roundw
   case rel => exact ⟨k + 1, _, by omega, rfl, by go_num, HIp⟩
   case measure => simp [intOf]; omega
set_option linter.unusedVariables false
set_option linter.unusedSimpArgs false

theorem Bnd.tog {zs : List Int} {m : List OpV} {N i : Nat} (h : Bnd zs m N) (hi : i < m.length) : Bnd zs (togU m i) N := by
 have hl := togL_len m i
 refine ⟨h.len, h.num, fun j hj => ?_, fun j hj => ?_, by rw [hl]; exact h.most⟩
 all_goals
  rw [hl] at hj
  unfold togU atOp
  rw [set_getD hi]
  split
 ·exact h.stamp i hi
 ·exact h.stamp j hj
 ·exact h.item i hi
 ·exact h.item j hj
theorem TglP.weak {xs : List Int} {l : List OpV} {dev seq : Int} {N : Nat} {w w' : World} {e : Ending} (h : TglP xs l dev seq w e w') (hB : Bnd xs l N) : IssW N w e w' := by
 rcases h with ⟨_, h⟩ | ⟨i, hi, _, ⟨_, h⟩ | ⟨_, h⟩⟩
 ·exact h.weak fun h => absurd h (by omega)
 ·exact h.weak fun h => absurd h (by omega)
 ·exact h.weak fun _ => hB.tog hi
/-- Three blocks that a call has laid first: a cart, a command and a result. -/
structure IsuF (w w1 : World) (x y z : Array Value) : Prop where
 fst : w1.heap[w.heap.size]? = some (.cells x 49 (0, 0))
 snd : w1.heap[w.heap.size + 1]? = some (.cells y 113 (0, 0))
 res : w1.heap[w.heap.size + 1 + 1]? = some (.cells z 49 (0, 0))
 bel : Below w.heap.size w w1
theorem IsuF.mk0 (w : World) (x y z : Array Value) : IsuF w (((w.alloc (.cells x 49)).alloc (.cells y 113)).alloc (.cells z 49)) x y z := by
 have e1 : (w.alloc (.cells x 49)).heap.size = w.heap.size + 1 := by simp
 have e2 : ((w.alloc (.cells x 49)).alloc (.cells y 113)).heap.size = w.heap.size + 1 + 1 := by simp
 refine ⟨?_, ?_, ?_, (((Below.refl _ w).alloc (Nat.le_refl _) _).alloc (by simp) _).alloc (by simp; omega) _⟩
 ·exact ((Below.heap_alloc _ _ _ (by omega)).trans (Below.heap_alloc _ _ _ (by omega))).trans (heap_alloc_new _ _)
 ·rw [← e1]; exact (Below.heap_alloc _ _ _ (by omega)).trans (heap_alloc_new _ _)
 ·rw [← e2]; exact heap_alloc_new _ _
theorem IsuF.next {w w1 w2 : World} {x y z : Array Value} (h : IsuF w w1 x y z) (hb : Below w1.heap.size w1 w2) : IsuF w w2 x y z :=
 ⟨(hb.block _ (Array.getElem?_eq_some_iff.1 h.fst).1).trans h.fst, (hb.block _ (Array.getElem?_eq_some_iff.1 h.snd).1).trans h.snd, (hb.block _ (Array.getElem?_eq_some_iff.1 h.res).1).trans h.res, h.bel.trans (hb.mono h.bel.size)⟩
theorem IsuF.lt {w w1 : World} {x y z : Array Value} (h : IsuF w w1 x y z) : w.heap.size + 1 + 1 < w1.heap.size := (Array.getElem?_eq_some_iff.1 h.res).1
theorem cmd_all {w : World} {b : Nat} {v0 v1 v2 v3 v4 : Value} {T : TypeId} {fr : Nat × Nat} (h : w.heap[b]? = some (.cells #[v0, v1, v2, v3, v4] T fr)) : w.cell? ⟨b, 0, none⟩ = some v0 ∧ w.cell? ⟨b, 1, none⟩ = some v1 ∧ w.cell? ⟨b, 2, none⟩ = some v2 ∧ w.cell? ⟨b, 3, none⟩ = some v3 ∧ w.cell? ⟨b, 4, none⟩ = some v4 :=
 ⟨cell_of_row _ _ _ _ _ _ h, cell_of_row _ _ _ _ _ _ h, cell_of_row _ _ _ _ _ _ h, cell_of_row _ _ _ _ _ _ h, cell_of_row _ _ _ _ _ _ h⟩
/-- What the result's block holds goes back. -/
theorem IsuF.out {w w1 w2 : World} {x y : Array Value} {z0 z1 : Value} {va oa : Option Addr} {nv vc no oc N : Nat} {code : Int} (h : IsuF w w2 x y #[z0, z1]) (hw : w.heap.size + 1 + 1 < w1.heap.size) (hc : code = 0 → nv = 4 ∧ Crt w2 w1.heap.size w2.heap.size va vc oa no oc N) :
  Hid (((w2.setCell ⟨w.heap.size + 1 + 1, 0, none⟩ (.slice va nv vc)).setCell ⟨w.heap.size + 1 + 1, 1, none⟩ (.slice oa no oc)).heap[w.heap.size + 1 + 1]? = some (.cells #[.slice va nv vc, .slice oa no oc] 49 (0, 0))) ∧
  Hid (IssW N w (.returned (.tuple #[.agg #[.slice va nv vc, .slice oa no oc], .int .i64 code])) ((w2.setCell ⟨w.heap.size + 1 + 1, 0, none⟩ (.slice va nv vc)).setCell ⟨w.heap.size + 1 + 1, 1, none⟩ (.slice oa no oc))) := by
 have hz := pair_size w2 (w.heap.size + 1 + 1) (.slice va nv vc) (.slice oa no oc)
 refine ⟨pair_set _ _ h.res, va, nv, vc, oa, no, oc, code, rfl, h.bel.trans ((below_set2 w2 (w.heap.size + 1 + 1) 0 1 _ _).mono (by omega)), fun h0 => ?_⟩
 obtain ⟨e, hc⟩ := hc h0
 exact ⟨e, (hc.kept fun j a1 a2 => pair_other _ _ (by omega)).more (by omega) (by rw [hz]; exact Nat.le_refl _) (Nat.le_refl _)⟩

set_option maxHeartbeats 40000000 in
theorem l6Issue (w : World) (B : Nat) (av ao : Option Addr) (cv no co : Nat) (d : Nat) (xs : List Int) (l : List OpV) (kind qty dv sq : Int) (item : ByteArray) (hx : Ints w B av 4 xs) (h : Ops w B ao no l) (hB : B ≤ w.heap.size) (hcv : Caps av 4 cv) (hco : Caps ao no co) (hi : item.size ≤ 8) (hd : d < 4) (hc : cartB xs l = true) :
  Calls Tryz.prog 94 #[.agg #[.slice av 4 cv, .slice ao no co], .int .i64 (d : Int), .agg #[.int .i64 kind, .string item, .int .i64 qty, .int .i64 dv, .int .i64 sq]] w (IssW 320 w) := by
 obtain rfl := h.1
 have hT := IsuF.mk0 w #[.slice av 4 cv, .slice ao l.length co] #[.int .i64 kind, .string item, .int .i64 qty, .int .i64 dv, .int .i64 sq] #[.slice none 0 0, .slice none 0 0]
 have HV := Lib.hid (hx.below hT.bel hB)
 have HO := Lib.hid (h.below hT.bel hB)
 have HT := Lib.hid hT
 have HCv := Lib.hid hcv
 have HCo := Lib.hid hco
 have HC := Lib.hid hc
 have HBn := Lib.hid (Bnd.of_cart hc)
 have hl := cart_length hc
 clear hc
 clear hx h hT hcv hco
 go_enter Tryz.func94, Tryz.ntmps94
 go_upto_region 1 with fail
 generalize ((w.alloc (.cells #[.slice av 4 cv, .slice ao l.length co] 49)).alloc (.cells #[.int .i64 kind, .string item, .int .i64 qty, .int .i64 dv, .int .i64 sq] 113)).alloc (.cells #[.slice none 0 0, .slice none 0 0] 49) = w0 at HV HO HT ⊢
 have hs0 := HT.out.lt
 obtain ⟨q0, q1⟩ := pair_cells HT.out.fst
 obtain ⟨k0, k1, k2, k3, k4⟩ := cmd_all HT.out.snd
 by_cases h6 : kind = 6
 ·have e6 : (kind == 6) = true := by rw [h6]; rfl
  clear h6
  go_wp2_with fail
  refine (l6Clear w0 B av ao cv l.length co d xs l HV.out HO.out (by omega) HCv.out HCo.out hd HC.out).mono ?_
  rintro e w1 ⟨va, nv, vc, oa, no, oc, code, rfl, hb, hcr⟩
  have HT1 := Lib.hid (HT.out.next hb)
  have HCr := Lib.hid hcr
  clear q0 q1 k0 k1 k2 k3 k4 HT hb hcr
  obtain ⟨r0, r1⟩ := pair_cells HT1.out.res
  obtain ⟨f0, f1⟩ := pair_frozen HT1.out.res
  obtain ⟨HX6, HI6⟩ := HT1.out.out (w1 := w0) (va := va) (nv := nv) (vc := vc) (oa := oa) (no := no) (oc := oc) (N := 320) (code := code) (by omega) HCr.out
  go_wp2
  generalize (w1.setCell ⟨w.heap.size + 1 + 1, 0, none⟩ (.slice va nv vc)).setCell ⟨w.heap.size + 1 + 1, 1, none⟩ (.slice oa no oc) = wf at HX6 HI6 ⊢
  obtain ⟨p0, p1⟩ := pair_cells HX6.out
  exact bodyPost_ret (v := .tuple #[.agg #[.slice va nv vc, .slice oa no oc], .int .i64 (code)]) (by simp [results, Tryz.results94, go_sem, p0, p1]) rfl HI6.out
 have e6 : (kind == 6) = false := by rw [beq_eq_false_iff_ne]; exact h6
 by_cases h7 : kind = 7
 ·have e7 : (kind == 7) = true := by rw [h7]; rfl
  clear h7
  clear q0 q1
  go_upto_region 5 with fail
  have hS : w0.drew.cell? ⟨w.heap.size, 0, none⟩ = some (.slice av 4 cv) ∧ w0.drew.cell? ⟨w.heap.size, 1, none⟩ = some (.slice ao l.length co) := pair_cells HT.out.fst
  go_wp2_with fail
  refine wp_region_held_drew (S := fun w' => w'.cell? ⟨w.heap.size, 0, none⟩ = some (.slice av 4 cv) ∧ w'.cell? ⟨w.heap.size, 1, none⟩ = some (.slice ao l.length co)) (by kernel_rfl) hS (fun hHeld => ?_)
  refine tj 0 ?_
  refine tj 1 ?_
  refine tj 2 ?_
  refine tj 3 ?_
  refine rk 4 rfl (fun K hK => ?_)
  go_simp
  go_at_call 109
  refine (l6Undo w0.drew B av ao 4 cv l.length co xs l (d : Int) (HO.out.kept (w' := w0.drew) fun _ _ => rfl) (by show B ≤ w0.heap.size; omega) (by omega) HC.out).mono ?_
  rintro e w1 ⟨rfl, hbz⟩
  have hb1 : Below w0.heap.size w0 w1 := Below.mk hbz.os hbz.tape hbz.output hbz.size hbz.block
  have hS1 : w1.cell? ⟨w.heap.size, 0, none⟩ = some (.slice av 4 cv) ∧ w1.cell? ⟨w.heap.size, 1, none⟩ = some (.slice ao l.length co) := pair_cells (HT.out.next hb1).fst
  have hs1 := hb1.size
  generalize undoTo (d : Int) l l.length = sqn
  refine hK.out _ _ hS1 (fun hHeld2 => ?_)
  clear hK K
  (try simp only [Act.put, u1, u2, u3])
  refine rk 5 rfl (fun K hK => ?_)
  go_simp
  go_at_call 108
  refine (l6Toggle w1 B av ao 4 cv l.length co xs l (d : Int) sqn (HV.out.below hb1 (by omega)) (HO.out.below hb1 (by omega)) (by omega) HCv.out.2.2 HCo.out.2.2 (by omega) (by omega) (fun i hi => by have := op_bounds (cart_op HC.out hi); omega)).mono ?_
  rintro e w2 htg
  obtain ⟨va, nv, vc, oa, no, oc, code, rfl, hb2, hcr⟩ := htg.weak (HBn.out.more (by omega : 160 ≤ 320))
  have HCr := Lib.hid hcr
  have hb12 := hb1.trans (hb2.mono hb1.size)
  have HT2 := Lib.hid (HT.out.next hb12)
  have hS2 : w2.cell? ⟨w.heap.size, 0, none⟩ = some (.slice av 4 cv) ∧ w2.cell? ⟨w.heap.size, 1, none⟩ = some (.slice ao l.length co) := pair_cells HT2.out.fst
  refine hK.out _ _ hS2 (fun hHeld3 => ?_)
  clear hK K
  (try simp only [Act.put, u1, u2, u3])
  refine tj 6 ?_
  refine tj 7 ?_
  obtain ⟨r0, r1⟩ := pair_cells HT2.out.res
  obtain ⟨f0, f1⟩ := pair_frozen HT2.out.res
  obtain ⟨HX6, HI6⟩ := HT2.out.out (w1 := w1) (va := va) (nv := nv) (vc := vc) (oa := oa) (no := no) (oc := oc) (N := 320) (code := code) (by omega) HCr.out
  have hS3 : ((w2.setCell ⟨w.heap.size + 1 + 1, 0, none⟩ (.slice va nv vc)).setCell ⟨w.heap.size + 1 + 1, 1, none⟩ (.slice oa no oc)).cell? ⟨w.heap.size, 0, none⟩ = some (.slice av 4 cv) ∧ ((w2.setCell ⟨w.heap.size + 1 + 1, 0, none⟩ (.slice va nv vc)).setCell ⟨w.heap.size + 1 + 1, 1, none⟩ (.slice oa no oc)).cell? ⟨w.heap.size, 1, none⟩ = some (.slice ao l.length co) := pair_cells ((pair_other _ _ (by omega)).trans HT2.out.fst)
  refine rk 8 rfl (fun K hK => ?_)
  go_simp
  refine hK.out _ _ hS3 (fun hHeld4 => ?_)
  clear hK K
  (try simp only [Act.put, u1, u2, u3])
  clear hS hS1 hS2 r0 r1 f0 f1 hHeld hHeld2 hHeld3
  generalize (w2.setCell ⟨w.heap.size + 1 + 1, 0, none⟩ (.slice va nv vc)).setCell ⟨w.heap.size + 1 + 1, 1, none⟩ (.slice oa no oc) = wf at HX6 HI6 hS3 ⊢
  refine tj 9 ?_
  refine wpAnyH_done (by kernel_rfl) ?_ _
  obtain ⟨p0, p1⟩ := pair_cells HX6.out
  go_wp2
  exact bodyPost_ret (v := .tuple #[.agg #[.slice va nv vc, .slice oa no oc], .int .i64 code]) (by simp [results, Tryz.results94, go_sem, p0, p1]) rfl HI6.out
 have e7 : (kind == 7) = false := by rw [beq_eq_false_iff_ne]; exact h7
 by_cases h8 : kind = 8
 ·have e8 : (kind == 8) = true := by rw [h8]; rfl
  clear h8
  clear q0 q1
  go_upto_region 7 with fail
  have hS : w0.drew.cell? ⟨w.heap.size, 0, none⟩ = some (.slice av 4 cv) ∧ w0.drew.cell? ⟨w.heap.size, 1, none⟩ = some (.slice ao l.length co) := pair_cells HT.out.fst
  go_wp2_with fail
  refine wp_region_held_drew (S := fun w' => w'.cell? ⟨w.heap.size, 0, none⟩ = some (.slice av 4 cv) ∧ w'.cell? ⟨w.heap.size, 1, none⟩ = some (.slice ao l.length co)) (by kernel_rfl) hS (fun hHeld => ?_)
  refine tj 0 ?_
  refine tj 1 ?_
  refine tj 2 ?_
  refine tj 3 ?_
  refine rk 4 rfl (fun K hK => ?_)
  go_simp
  go_at_call 110
  refine (l6Redo w0.drew B av ao 4 cv l.length co xs l d hd (HO.out.kept (w' := w0.drew) fun _ _ => rfl) (by show B ≤ w0.heap.size; omega) (by omega) HC.out).mono ?_
  rintro e w1 ⟨rfl, hbz⟩
  have hb1 : Below w0.heap.size w0 w1 := Below.mk hbz.os hbz.tape hbz.output hbz.size hbz.block
  have hS1 : w1.cell? ⟨w.heap.size, 0, none⟩ = some (.slice av 4 cv) ∧ w1.cell? ⟨w.heap.size, 1, none⟩ = some (.slice ao l.length co) := pair_cells (HT.out.next hb1).fst
  have hs1 := hb1.size
  generalize redoTo xs d l = sqn
  refine hK.out _ _ hS1 (fun hHeld2 => ?_)
  clear hK K
  (try simp only [Act.put, u1, u2, u3])
  refine rk 5 rfl (fun K hK => ?_)
  go_simp
  go_at_call 108
  refine (l6Toggle w1 B av ao 4 cv l.length co xs l (d : Int) sqn (HV.out.below hb1 (by omega)) (HO.out.below hb1 (by omega)) (by omega) HCv.out.2.2 HCo.out.2.2 (by omega) (by omega) (fun i hi => by have := op_bounds (cart_op HC.out hi); omega)).mono ?_
  rintro e w2 htg
  obtain ⟨va, nv, vc, oa, no, oc, code, rfl, hb2, hcr⟩ := htg.weak (HBn.out.more (by omega : 160 ≤ 320))
  have HCr := Lib.hid hcr
  have hb12 := hb1.trans (hb2.mono hb1.size)
  have HT2 := Lib.hid (HT.out.next hb12)
  have hS2 : w2.cell? ⟨w.heap.size, 0, none⟩ = some (.slice av 4 cv) ∧ w2.cell? ⟨w.heap.size, 1, none⟩ = some (.slice ao l.length co) := pair_cells HT2.out.fst
  refine hK.out _ _ hS2 (fun hHeld3 => ?_)
  clear hK K
  (try simp only [Act.put, u1, u2, u3])
  refine tj 6 ?_
  refine tj 7 ?_
  obtain ⟨r0, r1⟩ := pair_cells HT2.out.res
  obtain ⟨f0, f1⟩ := pair_frozen HT2.out.res
  obtain ⟨HX6, HI6⟩ := HT2.out.out (w1 := w1) (va := va) (nv := nv) (vc := vc) (oa := oa) (no := no) (oc := oc) (N := 320) (code := code) (by omega) HCr.out
  have hS3 : ((w2.setCell ⟨w.heap.size + 1 + 1, 0, none⟩ (.slice va nv vc)).setCell ⟨w.heap.size + 1 + 1, 1, none⟩ (.slice oa no oc)).cell? ⟨w.heap.size, 0, none⟩ = some (.slice av 4 cv) ∧ ((w2.setCell ⟨w.heap.size + 1 + 1, 0, none⟩ (.slice va nv vc)).setCell ⟨w.heap.size + 1 + 1, 1, none⟩ (.slice oa no oc)).cell? ⟨w.heap.size, 1, none⟩ = some (.slice ao l.length co) := pair_cells ((pair_other _ _ (by omega)).trans HT2.out.fst)
  refine rk 8 rfl (fun K hK => ?_)
  go_simp
  refine hK.out _ _ hS3 (fun hHeld4 => ?_)
  clear hK K
  (try simp only [Act.put, u1, u2, u3])
  clear hS hS1 hS2 r0 r1 f0 f1 hHeld hHeld2 hHeld3
  generalize (w2.setCell ⟨w.heap.size + 1 + 1, 0, none⟩ (.slice va nv vc)).setCell ⟨w.heap.size + 1 + 1, 1, none⟩ (.slice oa no oc) = wf at HX6 HI6 hS3 ⊢
  refine tj 9 ?_
  refine wpAnyH_done (by kernel_rfl) ?_ _
  obtain ⟨p0, p1⟩ := pair_cells HX6.out
  go_wp2
  exact bodyPost_ret (v := .tuple #[.agg #[.slice va nv vc, .slice oa no oc], .int .i64 code]) (by simp [results, Tryz.results94, go_sem, p0, p1]) rfl HI6.out
 have e8 : (kind == 8) = false := by rw [beq_eq_false_iff_ne]; exact h8
 by_cases h9 : kind = 9
 ·have e9 : (kind == 9) = true := by rw [h9]; rfl
  clear h6 h7 h8 h9
  go_wp2_with fail
  refine (l6Toggle w0 B av ao 4 cv l.length co xs l dv sq HV.out HO.out (by omega) HCv.out.2.2 HCo.out.2.2 (by omega) (by omega) (fun i hi => by have := op_bounds (cart_op HC.out hi); omega)).mono ?_
  rintro e w1 htg
  obtain ⟨va, nv, vc, oa, no, oc, code, rfl, hb, hcr⟩ := htg.weak (HBn.out.more (by omega : 160 ≤ 320))
  have HT1 := Lib.hid (HT.out.next hb)
  have HCr := Lib.hid hcr
  clear q0 q1 k0 k1 k2 k3 k4 HT hb hcr htg
  obtain ⟨r0, r1⟩ := pair_cells HT1.out.res
  obtain ⟨f0, f1⟩ := pair_frozen HT1.out.res
  obtain ⟨HX6, HI6⟩ := HT1.out.out (w1 := w0) (va := va) (nv := nv) (vc := vc) (oa := oa) (no := no) (oc := oc) (N := 320) (code := code) (by omega) HCr.out
  go_wp2
  generalize (w1.setCell ⟨w.heap.size + 1 + 1, 0, none⟩ (.slice va nv vc)).setCell ⟨w.heap.size + 1 + 1, 1, none⟩ (.slice oa no oc) = wf at HX6 HI6 ⊢
  obtain ⟨p0, p1⟩ := pair_cells HX6.out
  exact bodyPost_ret (v := .tuple #[.agg #[.slice va nv vc, .slice oa no oc], .int .i64 (code)]) (by simp [results, Tryz.results94, go_sem, p0, p1]) rfl HI6.out
 have e9 : (kind == 9) = false := by rw [beq_eq_false_iff_ne]; exact h9
 clear h6 h7 h8 h9
 go_wp2_with fail
 refine (l6One w0 B av ao 4 cv l.length co xs l kind qty dv sq item HO.out (by omega) (by omega) HC.out (by have := cart_level HC.out item l.length (Nat.le_refl _); omega)).mono ?_
 have hitm := oneOf_item (levTo item l l.length) (decide ((bestTo plcB item l l.length).kind = 4)) kind item qty
 generalize oneOf (levTo item l l.length) (decide ((bestTo plcB item l l.length).kind = 4)) kind item qty = oc at hitm ⊢
 obtain ⟨op, code⟩ := oc
 have hi8 : op.item.size ≤ 8 := by
  rcases hitm with e | e
  ·have e : op.item = item := e
   rw [e]; exact hi
  ·have e : op.item = ⟨#[]⟩ := e
   rw [e]; exact Nat.zero_le _
 rintro e w1 ⟨rfl, hb1⟩
 have HT1 := Lib.hid (HT.out.next hb1)
 have HV1 := Lib.hid (HV.out.below hb1 (by omega))
 have HO1 := Lib.hid (HO.out.below hb1 (by omega))
 have hs1 := hb1.size
 clear hb1 HT HV HO q0 q1 k0 k1 k2 k3 k4 e6 e7 e8 e9 hitm
 go_upto_region 11 with fail
 have hb2 : Below w1.heap.size w1 (w1.alloc (.cells #[.int .i64 op.dev, .int .i64 op.seq, .int .i64 op.stamp, .int .i64 op.kind, .string op.item, .int .i64 op.qty, .int .i64 op.level, .int .i64 op.undos] 84)) := (Below.refl _ w1).alloc (Nat.le_refl _) _
 have HP2 : Hid ((w1.alloc (.cells #[.int .i64 op.dev, .int .i64 op.seq, .int .i64 op.stamp, .int .i64 op.kind, .string op.item, .int .i64 op.qty, .int .i64 op.level, .int .i64 op.undos] 84)).heap[w1.heap.size]? = some (.cells #[.int .i64 op.dev, .int .i64 op.seq, .int .i64 op.stamp, .int .i64 op.kind, .string op.item, .int .i64 op.qty, .int .i64 op.level, .int .i64 op.undos] 84 (0, 0))) := boxAt (Below.refl _ _)
 generalize w1.alloc (.cells #[.int .i64 op.dev, .int .i64 op.seq, .int .i64 op.stamp, .int .i64 op.kind, .string op.item, .int .i64 op.qty, .int .i64 op.level, .int .i64 op.undos] 84) = w2 at hb2 HP2 ⊢
 have HT2 := Lib.hid (HT1.out.next hb2)
 have HV2 := Lib.hid (HV1.out.below hb2 (by omega))
 have HO2 := Lib.hid (HO1.out.below hb2 (by omega))
 have hs2 := hb2.size
 clear hb2 HT1 HV1 HO1
 by_cases hc0 : code = 0
 rotate_left
 ·have en : (code != 0) = true := by simpa using hc0
  have HN0 := Lib.hid hc0
  clear hc0
  obtain ⟨r0, r1⟩ := pair_cells HT2.out.res
  obtain ⟨f0, f1⟩ := pair_frozen HT2.out.res
  obtain ⟨HX6, HI6⟩ := HT2.out.out (w1 := w2) (va := none) (nv := 0) (vc := 0) (oa := none) (no := 0) (oc := 0) (N := 320) (code := code) (by omega) (fun h => absurd h HN0.out)
  go_wp2
  generalize (w2.setCell ⟨w.heap.size + 1 + 1, 0, none⟩ (.slice none 0 0)).setCell ⟨w.heap.size + 1 + 1, 1, none⟩ (.slice none 0 0) = wf at HX6 HI6 ⊢
  obtain ⟨p0, p1⟩ := pair_cells HX6.out
  exact bodyPost_ret (v := .tuple #[.agg #[.slice none 0 0, .slice none 0 0], .int .i64 (code)]) (by simp [results, Tryz.results94, go_sem, p0, p1]) rfl HI6.out
 subst hc0
 have HB0 := HBn.out
 obtain ⟨okk, zs', m', hput⟩ := l6PutAny xs l d 160 (by omega) op HB0 hd (by omega)
 have HPut := Lib.hid hput
 clear hput HB0
 obtain ⟨q0, q1⟩ := pair_cells HT2.out.fst
 obtain ⟨d0, d1, d2, d3, d4, d5, d6, d7⟩ := op_cells HP2.out
 go_wp2_with fail
 refine (HPut.out.2 w2 B av ao cv co HV2.out HO2.out (by omega) HCv.out HCo.out).mono ?_
 rintro e w3 ⟨va, vc, oa, oc, rfl, hov, hop, hb3, c1, c2⟩
 have HT3 := Lib.hid (HT2.out.next hb3)
 have HA := Lib.hid hov
 have HD := Lib.hid hop
 have HC1 := Lib.hid c1
 have HC2 := Lib.hid c2
 have hs3 := hb3.size
 clear hov hop hb3 c1 c2 HT2 q0 q1 d0 d1 d2 d3 d4 d5 d6 d7 HP2 HV2 HO2
 go_upto_region 14 with fail
 have hb4 : Below w3.heap.size w3 (w3.alloc (.cells #[.slice va zs'.length vc, .slice oa m'.length oc] 49)) := (Below.refl _ w3).alloc (Nat.le_refl _) _
 have HN4 : Hid ((w3.alloc (.cells #[.slice va zs'.length vc, .slice oa m'.length oc] 49)).heap[w3.heap.size]? = some (.cells #[.slice va zs'.length vc, .slice oa m'.length oc] 49 (0, 0))) := boxAt (Below.refl _ _)
 generalize w3.alloc (.cells #[.slice va zs'.length vc, .slice oa m'.length oc] 49) = w4 at hb4 HN4 ⊢
 have HT4 := Lib.hid (HT3.out.next hb4)
 have HA4 := Lib.hid (HA.out.below hb4 (Nat.le_refl _))
 have HD4 := Lib.hid (HD.out.below hb4 (Nat.le_refl _))
 have hs4 := hb4.size
 clear hb4 HT3 HA HD
 cases okk
 ·skip
  obtain ⟨r0, r1⟩ := pair_cells HT4.out.res
  obtain ⟨f0, f1⟩ := pair_frozen HT4.out.res
  obtain ⟨HX6, HI6⟩ := HT4.out.out (w1 := w4) (va := none) (nv := 0) (vc := 0) (oa := none) (no := 0) (oc := 0) (N := 320) (code := 4) (by omega) (fun h => absurd h (by omega))
  go_wp2
  generalize (w4.setCell ⟨w.heap.size + 1 + 1, 0, none⟩ (.slice none 0 0)).setCell ⟨w.heap.size + 1 + 1, 1, none⟩ (.slice none 0 0) = wf at HX6 HI6 ⊢
  obtain ⟨p0, p1⟩ := pair_cells HX6.out
  exact bodyPost_ret (v := .tuple #[.agg #[.slice none 0 0, .slice none 0 0], .int .i64 (4)]) (by simp [results, Tryz.results94, go_sem, p0, p1]) rfl HI6.out
 have hbd := HPut.out.1 rfl
 have HC1 := HC1
 have HA4 := HA4
 rw [hbd.len] at HN4 HA4 HC1 ⊢
 have HCr : Hid ((0 : Int) = 0 → 4 = 4 ∧ Crt w4 w2.heap.size w4.heap.size va vc oa m'.length oc 320) := fun _ => ⟨rfl, zs', m', rfl, HA4.out.more (Nat.le_refl _) hs4, HD4.out.more (Nat.le_refl _) hs4, HC1.out, HC2.out, hbd.more (by omega)⟩
 clear hbd
 obtain ⟨n0, n1⟩ := pair_cells HN4.out
 obtain ⟨r0, r1⟩ := pair_cells HT4.out.res
 obtain ⟨f0, f1⟩ := pair_frozen HT4.out.res
 obtain ⟨HX6, HI6⟩ := HT4.out.out (w1 := w2) (va := va) (nv := 4) (vc := vc) (oa := oa) (no := m'.length) (oc := oc) (N := 320) (code := 0) (by omega) HCr.out
 go_wp2
 generalize (w4.setCell ⟨w.heap.size + 1 + 1, 0, none⟩ (.slice va 4 vc)).setCell ⟨w.heap.size + 1 + 1, 1, none⟩ (.slice oa m'.length oc) = wf at HX6 HI6 ⊢
 obtain ⟨p0, p1⟩ := pair_cells HX6.out
 exact bodyPost_ret (v := .tuple #[.agg #[.slice va 4 vc, .slice oa m'.length oc], .int .i64 (0)]) (by simp [results, Tryz.results94, go_sem, p0, p1]) rfl HI6.out
set_option maxHeartbeats 40000000 in
theorem specIssue (w : World) (B : Nat) (av ao : Option Addr) (cv no co : Nat) (xs : List Int) (l : List OpV) (kind qty dv sq : Int) (item : ByteArray) (hx : Ints w B av 4 xs) (h : Ops w B ao no l) (hB : B ≤ w.heap.size) (hcv : Caps av 4 cv) (hco : Caps ao no co) (hi : item.size ≤ 8) (dev : Int) (hm : ∀ i, i < no → (atOp l i).item.size ≤ 1048576) (hn : no ≤ 1048576) :
  Calls Tryz.prog 64 #[.agg #[.slice av 4 cv, .slice ao no co], .int .i64 dev, .agg #[.int .i64 kind, .string item, .int .i64 qty, .int .i64 dv, .int .i64 sq]] w (IssW 320 w) := by
 obtain rfl := h.1
 have hT := IsuF.mk0 w #[.slice av 4 cv, .slice ao l.length co] #[.int .i64 kind, .string item, .int .i64 qty, .int .i64 dv, .int .i64 sq] #[.slice none 0 0, .slice none 0 0]
 have HV := Lib.hid (hx.below hT.bel hB)
 have HO := Lib.hid (h.below hT.bel hB)
 have HT := Lib.hid hT
 have HCv := Lib.hid hcv
 have HCo := Lib.hid hco
 have HM := Lib.hid hm
 clear hm
 clear hx h hT hcv hco
 go_enter Tryz.func64, Tryz.ntmps64
 go_upto_region 1 with fail
 generalize ((w.alloc (.cells #[.slice av 4 cv, .slice ao l.length co] 49)).alloc (.cells #[.int .i64 kind, .string item, .int .i64 qty, .int .i64 dv, .int .i64 sq] 113)).alloc (.cells #[.slice none 0 0, .slice none 0 0] 49) = w0 at HV HO HT ⊢
 have hs0 := HT.out.lt
 obtain ⟨q0, q1⟩ := pair_cells HT.out.fst
 obtain ⟨k0, k1, k2, k3, k4⟩ := cmd_all HT.out.snd
 have finish : ∀ (w1 : World), IsuF w w1 #[.slice av 4 cv, .slice ao l.length co] #[.int .i64 kind, .string item, .int .i64 qty, .int .i64 dv, .int .i64 sq] #[.slice none 0 0, .slice none 0 0] → True := fun _ _ => trivial
 clear finish
 obtain ⟨cb, hcb⟩ : ∃ b, cartB xs l = b := ⟨_, rfl⟩
 have HCb := Lib.hid hcb
 clear hcb
 go_wp2_with fail
 refine (specCartOk w0 B av ao 4 cv l.length co xs l HV.out HO.out (by omega) (by omega) hn HM.out).mono ?_
 rw [HCb.out]
 rintro e w1 ⟨rfl, hb1⟩
 have HT1 := Lib.hid (HT.out.next hb1)
 have HV1 := Lib.hid (HV.out.below hb1 (by omega))
 have HO1 := Lib.hid (HO.out.below hb1 (by omega))
 have hs1 := hb1.size
 clear hb1 HT HV HO q0 q1 k0 k1 k2 k3 k4
 cases cb
 ·skip
  obtain ⟨r0, r1⟩ := pair_cells HT1.out.res
  obtain ⟨f0, f1⟩ := pair_frozen HT1.out.res
  obtain ⟨HX6, HI6⟩ := HT1.out.out (w1 := w1) (va := none) (nv := 0) (vc := 0) (oa := none) (no := 0) (oc := 0) (N := 320) (code := 1) (by omega) (fun h => absurd h (by omega))
  go_wp2
  generalize (w1.setCell ⟨w.heap.size + 1 + 1, 0, none⟩ (.slice none 0 0)).setCell ⟨w.heap.size + 1 + 1, 1, none⟩ (.slice none 0 0) = wf at HX6 HI6 ⊢
  obtain ⟨p0, p1⟩ := pair_cells HX6.out
  exact bodyPost_ret (v := .tuple #[.agg #[.slice none 0 0, .slice none 0 0], .int .i64 (1)]) (by simp [results, Tryz.results64, go_sem, p0, p1]) rfl HI6.out
 go_wp2_with fail
 refine (l3Dev dev w1).mono ?_
 rintro e w2 ⟨rfl, rfl⟩
 obtain ⟨db, hdb⟩ : ∃ b, inB dev 0 3 = b := ⟨_, rfl⟩
 have HDb := Lib.hid hdb
 rw [hdb]
 clear hdb
 cases db
 ·skip
  obtain ⟨r0, r1⟩ := pair_cells HT1.out.res
  obtain ⟨f0, f1⟩ := pair_frozen HT1.out.res
  obtain ⟨HX6, HI6⟩ := HT1.out.out (w1 := w1) (va := none) (nv := 0) (vc := 0) (oa := none) (no := 0) (oc := 0) (N := 320) (code := 1) (by omega) (fun h => absurd h (by omega))
  go_wp2
  generalize (w1.setCell ⟨w.heap.size + 1 + 1, 0, none⟩ (.slice none 0 0)).setCell ⟨w.heap.size + 1 + 1, 1, none⟩ (.slice none 0 0) = wf at HX6 HI6 ⊢
  obtain ⟨p0, p1⟩ := pair_cells HX6.out
  exact bodyPost_ret (v := .tuple #[.agg #[.slice none 0 0, .slice none 0 0], .int .i64 (1)]) (by simp [results, Tryz.results64, go_sem, p0, p1]) rfl HI6.out
 obtain ⟨k0, k1, k2, k3, k4⟩ := cmd_all HT1.out.snd
 go_wp2_with fail
 refine (specCmd kind item qty dv sq (by omega) w1).mono ?_
 generalize cmdB kind item qty dv sq = kb
 rintro e w2 ⟨rfl, hb2⟩
 have HT2 := Lib.hid (HT1.out.next hb2)
 have HV2 := Lib.hid (HV1.out.below hb2 (by omega))
 have HO2 := Lib.hid (HO1.out.below hb2 (by omega))
 have hs2 := hb2.size
 clear hb2 HT1 HV1 HO1 k0 k1 k2 k3 k4
 cases kb
 ·skip
  obtain ⟨r0, r1⟩ := pair_cells HT2.out.res
  obtain ⟨f0, f1⟩ := pair_frozen HT2.out.res
  obtain ⟨HX6, HI6⟩ := HT2.out.out (w1 := w2) (va := none) (nv := 0) (vc := 0) (oa := none) (no := 0) (oc := 0) (N := 320) (code := 1) (by omega) (fun h => absurd h (by omega))
  go_wp2
  generalize (w2.setCell ⟨w.heap.size + 1 + 1, 0, none⟩ (.slice none 0 0)).setCell ⟨w.heap.size + 1 + 1, 1, none⟩ (.slice none 0 0) = wf at HX6 HI6 ⊢
  obtain ⟨p0, p1⟩ := pair_cells HX6.out
  exact bodyPost_ret (v := .tuple #[.agg #[.slice none 0 0, .slice none 0 0], .int .i64 (1)]) (by simp [results, Tryz.results64, go_sem, p0, p1]) rfl HI6.out
 obtain ⟨d, rfl, hd⟩ : ∃ d : Nat, dev = (d : Int) ∧ d < 4 := by
  have := HDb.out
  rw [inB_iff] at this
  exact ⟨dev.toNat, by omega, by omega⟩
 have hl := cart_length HCb.out
 obtain ⟨q0, q1⟩ := pair_cells HT2.out.fst
 obtain ⟨k0, k1, k2, k3, k4⟩ := cmd_all HT2.out.snd
 go_wp2_with fail
 refine (l6Issue w2 B av ao cv l.length co d xs l kind qty dv sq item HV2.out HO2.out (by omega) HCv.out HCo.out hi hd HCb.out).mono ?_
 rintro e w3 ⟨va, nv, vc, oa, no, oc, code, rfl, hb3, hcr⟩
 have HT3 := Lib.hid (HT2.out.next hb3)
 have HV3 := Lib.hid (HV2.out.below hb3 (by omega))
 have HO3 := Lib.hid (HO2.out.below hb3 (by omega))
 have HCr := Lib.hid hcr
 have hs3 := hb3.size
 clear hb3 HT2 HV2 HO2 hcr q0 q1 k0 k1 k2 k3 k4
 go_upto_region 4 with fail
 have hb4 : Below w3.heap.size w3 (w3.alloc (.cells #[.slice va nv vc, .slice oa no oc] 49)) := (Below.refl _ w3).alloc (Nat.le_refl _) _
 have HN4 : Hid ((w3.alloc (.cells #[.slice va nv vc, .slice oa no oc] 49)).heap[w3.heap.size]? = some (.cells #[.slice va nv vc, .slice oa no oc] 49 (0, 0))) := boxAt (Below.refl _ _)
 generalize w3.alloc (.cells #[.slice va nv vc, .slice oa no oc] 49) = w4 at hb4 HN4 ⊢
 have HT4 := Lib.hid (HT3.out.next hb4)
 have HV4 := Lib.hid (HV3.out.below hb4 (by omega))
 have HO4 := Lib.hid (HO3.out.below hb4 (by omega))
 have HCr4 : Hid (code = 0 → nv = 4 ∧ Crt w4 w2.heap.size w4.heap.size va vc oa no oc 320) := fun h0 => ⟨(HCr.out h0).1, ((HCr.out h0).2.below hb4 (Nat.le_refl _)).more (Nat.le_refl _) hb4.size (Nat.le_refl _)⟩
 have hs4 := hb4.size
 clear hb4 HT3 HV3 HO3 HCr
 by_cases hc0 : code = 0
 rotate_left
 ·have en : (code != 0) = true := by simpa using hc0
  have HN0 := Lib.hid hc0
  clear hc0
  obtain ⟨q0, q1⟩ := pair_cells HT4.out.fst
  go_wp2_with fail
  refine (l4Copy w4 B av ao 4 cv l.length co xs l HV4.out HO4.out (by omega) HCv.out.2.2 HCo.out.2.2 (by omega) (by omega)).mono ?_
  rintro e w5 ⟨ra, rc, sa, sc, rfl, _, _, hb5, _, _⟩
  have HT5 := Lib.hid (HT4.out.next hb5)
  have hs5 := hb5.size
  clear hb5 HT4 HV4 HO4 q0 q1
  obtain ⟨r0, r1⟩ := pair_cells HT5.out.res
  obtain ⟨f0, f1⟩ := pair_frozen HT5.out.res
  obtain ⟨HX6, HI6⟩ := HT5.out.out (w1 := w5) (va := ra) (nv := xs.length) (vc := rc) (oa := sa) (no := l.length) (oc := sc) (N := 320) (code := code) (by omega) (fun h => absurd h HN0.out)
  go_wp2
  generalize (w5.setCell ⟨w.heap.size + 1 + 1, 0, none⟩ (.slice ra xs.length rc)).setCell ⟨w.heap.size + 1 + 1, 1, none⟩ (.slice sa l.length sc) = wf at HX6 HI6 ⊢
  obtain ⟨p0, p1⟩ := pair_cells HX6.out
  exact bodyPost_ret (v := .tuple #[.agg #[.slice ra xs.length rc, .slice sa l.length sc], .int .i64 (code)]) (by simp [results, Tryz.results64, go_sem, p0, p1]) rfl HI6.out
 subst hc0
 obtain ⟨n0, n1⟩ := pair_cells HN4.out
 obtain ⟨r0, r1⟩ := pair_cells HT4.out.res
 obtain ⟨f0, f1⟩ := pair_frozen HT4.out.res
 obtain ⟨HX6, HI6⟩ := HT4.out.out (w1 := w2) (va := va) (nv := nv) (vc := vc) (oa := oa) (no := no) (oc := oc) (N := 320) (code := 0) (by omega) HCr4.out
 go_wp2
 generalize (w4.setCell ⟨w.heap.size + 1 + 1, 0, none⟩ (.slice va nv vc)).setCell ⟨w.heap.size + 1 + 1, 1, none⟩ (.slice oa no oc) = wf at HX6 HI6 ⊢
 obtain ⟨p0, p1⟩ := pair_cells HX6.out
 exact bodyPost_ret (v := .tuple #[.agg #[.slice va nv vc, .slice oa no oc], .int .i64 (0)]) (by simp [results, Tryz.results64, go_sem, p0, p1]) rfl HI6.out
set_option linter.unusedVariables false

theorem zero_made (W : World) : (Instr.makeSlice 46 (.int .i64 4) (.int .i64 4)).run Tryz.prog W = .ok (.slice (some ⟨W.heap.size, 0, none⟩) 4 4) (W.alloc (.cells #[.int .i64 0, .int .i64 0, .int .i64 0, .int .i64 0] 2)) := by
 obtain ⟨i0, hi, hz0, hz1, hz2⟩ := info_parts Tryz.infoI64
 have h := run_make (P := Tryz.prog) W 46 2 i0 (.int .i64 0) Tryz.underlying46 hi hz0 .i64 .i64 4 4 (by omega) (by omega) (by rw [hz2]; omega) (by omega)
 rw [hz1] at h
 have e : madeCells (Value.int .i64 0).cells (Int.toNat 4 * 1) = #[.int .i64 0, .int .i64 0, .int .i64 0, .int .i64 0] := by kernel_rfl
 rw [e] at h
 exact h
theorem l2Zero (w : World) : Calls Tryz.prog 90 #[] w fun e w' => ∃ g, e = .returned (.slice (some ⟨g, 0, none⟩) 4 4) ∧ Own w' w.heap.size w'.heap.size (some ⟨g, 0, none⟩) 4 [0, 0, 0, 0] ∧ Below w.heap.size w w' := by
 have hm := zero_made
 go_enter Tryz.func90, Tryz.ntmps90
 go_wp2
 go_ret
 exact ⟨_, rfl, own_fresh (xs := [0, 0, 0, 0]) (heap_alloc_new _ _) (by show _ < (w.heap.push _).size; simp), bl⟩
theorem specCartNew (w : World) : Calls Tryz.prog 62 #[] w fun e w' => ∃ g, e = .returned (.agg #[.slice (some ⟨g, 0, none⟩) 4 4, .slice none 0 0]) ∧ Crt w' w.heap.size w'.heap.size (some ⟨g, 0, none⟩) 4 none 0 0 400 ∧ Below w.heap.size w w' := by
 go_enter Tryz.func62, Tryz.ntmps62
 go_wp2_with fail
 refine (l2Zero _).mono ?_
 rintro e w1 ⟨g, rfl, ho, hb⟩
 have hx := boxAt hb
 have HB := Lib.hid (box_below hb)
 obtain ⟨c0, c1⟩ := pair_cells hx
 obtain ⟨f0, f1⟩ := pair_frozen hx
 have HX := Lib.hid (pair_set (.slice (some ⟨g, 0, none⟩) 4 4) (.slice none 0 0) hx)
 have HO : Hid (Own ((w1.setCell ⟨w.heap.size, 0, none⟩ (.slice (some ⟨g, 0, none⟩) 4 4)).setCell ⟨w.heap.size, 1, none⟩ (.slice none 0 0)) w.heap.size w1.heap.size (some ⟨g, 0, none⟩) 4 [0, 0, 0, 0]) := (Own.kept ho fun j h1 h2 => pair_other _ _ (by have : w.heap.size < (w.alloc (.cells #[.slice none 0 0, .slice none 0 0] 49)).heap.size := by { show _ < (w.heap.push _).size; simp }; omega)).more (by show _ ≤ (w.heap.push _).size; simp) (Nat.le_refl _)
 have HBf := Lib.hid ((HB.out.setCell (p := ⟨w.heap.size, 0, none⟩) (Nat.le_refl _) (.slice (some ⟨g, 0, none⟩) 4 4)).setCell (p := ⟨w.heap.size, 1, none⟩) (Nat.le_refl _) (.slice none 0 0))
 have hsz := Lib.hid (pair_size w1 w.heap.size (.slice (some ⟨g, 0, none⟩) 4 4) (.slice none 0 0))
 clear hx hb ho
 go_wp2
 generalize (w1.setCell ⟨w.heap.size, 0, none⟩ (.slice (some ⟨g, 0, none⟩) 4 4)).setCell ⟨w.heap.size, 1, none⟩ (.slice none 0 0) = wf at HX HO HBf hsz ⊢
 obtain ⟨d0, d1⟩ := pair_cells HX.out
 refine bodyPost_ret (v := .agg #[.slice (some ⟨g, 0, none⟩) 4 4, .slice none 0 0]) (by simp [results, Tryz.results62, go_sem, d0, d1]) rfl ⟨g, rfl, ⟨[0, 0, 0, 0], [], rfl, HO.out.more (Nat.le_refl _) (Nat.le_of_eq hsz.out.symm), own_none _ _ _ _, ⟨Nat.le_refl _, by unfold CapOk maxLen; omega, fun h => by cases h⟩, caps_nil, ?_⟩, HBf.out⟩
 refine ⟨rfl, fun d hd => ?_, fun i hi => absurd hi (by simp), fun i hi => absurd hi (by simp), Nat.zero_le _⟩
 match d, hd with
 | 0, _ => exact ⟨Int.le_refl _, by show (0 : Int) ≤ 1000; omega⟩
 | 1, _ => exact ⟨Int.le_refl _, by show (0 : Int) ≤ 1000; omega⟩
 | 2, _ => exact ⟨Int.le_refl _, by show (0 : Int) ≤ 1000; omega⟩
 | 3, _ => exact ⟨Int.le_refl _, by show (0 : Int) ≤ 1000; omega⟩
/-- A cart as two slices. -/
structure CartC where
 va : Option Addr
 vc : Nat
 oa : Option Addr
 no : Nat
 oc : Nat
def CartC.zero : CartC := ⟨none, 0, none, 0, 0⟩
def CartC.val (x : CartC) : Value := .agg #[.slice x.va 4 x.vc, .slice x.oa x.no x.oc]
def cRow (x : CartC) : List Value := [.slice x.va 4 x.vc, .slice x.oa x.no x.oc]
def cAt (l : List CartC) (i : Nat) : CartC := l.getD i CartC.zero
def flatC : List CartC → List Value
 | [] => []
 | x :: l => cRow x ++ flatC l
theorem flatC_snoc (x : CartC) : ∀ l, flatC (l ++ [x]) = flatC l ++ cRow x
 | [] => rfl
 | q :: l => by show cRow q ++ flatC (l ++ [x]) = (cRow q ++ flatC l) ++ cRow x; rw [flatC_snoc x l, List.append_assoc]
theorem flatC_at : ∀ (l : List CartC) (i : Nat), i < l.length → (flatC l)[i * 2]? = some (.slice (cAt l i).va 4 (cAt l i).vc) ∧ (flatC l)[i * 2 + 1]? = some (.slice (cAt l i).oa (cAt l i).no (cAt l i).oc)
 | x :: l, 0, _ => ⟨rfl, rfl⟩
 | x :: l, i + 1, h => by
  have := flatC_at l i (by simpa using h)
  have e : (i + 1) * 2 = i * 2 + 2 := by omega
  rw [e]
  exact this
theorem cAt_old {l : List CartC} {x : CartC} {i : Nat} (h : i < l.length) : cAt (l ++ [x]) i = cAt l i := by
 unfold cAt; rw [List.getD_eq_getElem?_getD, List.getD_eq_getElem?_getD, List.getElem?_append_left h]
theorem cAt_new (l : List CartC) (x : CartC) : cAt (l ++ [x]) l.length = x := by
 unfold cAt; simp
theorem cAt_set {l : List CartC} {x : CartC} {i k : Nat} (hk : k < l.length) : cAt (l.set k x) i = if k = i then x else cAt l i := by
 unfold cAt; exact set_getD hk
def CrtC (w : World) (lo hi : Nat) (x : CartC) : Prop := Crt w lo hi x.va x.vc x.oa x.no x.oc 400
/-- A block of carts is none of a cart's own. -/
theorem Crt.other {w w' : World} {lo hi q N : Nat} {va oa : Option Addr} {vc no oc : Nat} {cs : Array Value} {fr : Nat × Nat} (h : Crt w lo hi va vc oa no oc N) (hq : w.heap[q]? = some (.cells cs 49 fr)) (hk : ∀ j, lo ≤ j → j < hi → j ≠ q → w'.heap[j]? = w.heap[j]?) : Crt w' lo hi va vc oa no oc N := by
 obtain ⟨zs, m, e, a, b, c, d, f⟩ := h
 refine ⟨zs, m, e, ⟨a.1, fun hn => ?_⟩, ⟨b.1, fun hn => ?_⟩, c, d, f⟩
 ·obtain ⟨g, cur, e1, h1, h2, hg, hc⟩ := a.2 hn
  have hne : g ≠ q := by
   intro e2
   rw [e2, hq] at hg
   injection hg with hg
   injection hg with _ hg
   exact absurd hg (by decide)
  exact ⟨g, cur, e1, h1, h2, (hk g h1 h2 hne).trans hg, hc⟩
 ·obtain ⟨g, off, cur, e1, h1, h2, hg, hs, hc⟩ := b.2 hn
  have hne : g ≠ q := by
   intro e2
   rw [e2, hq] at hg
   injection hg with hg
   injection hg with _ hg
   exact absurd hg (by decide)
  exact ⟨g, off, cur, e1, h1, h2, (hk g h1 h2 hne).trans hg, hs, hc⟩

theorem infoCartC : (Tryz.prog.info? 49).map (fun i => (i.zero, i.size, i.bytes)) = some (some (.agg #[.slice none 0 0, .slice none 0 0]), 2, 48) := by kernel_rfl
/-- A row of carts that a call gathers in memory of its own. -/
structure CrsI (w : World) (base : Nat) (v : Value) (l : List CartC) : Prop where
 row : w.ownsRow base 49 2 v l.length (flatC l)
 crt : ∀ i, i < l.length → CrtC w base w.heap.size (cAt l i)
theorem CrsI.below {w w' : World} {base : Nat} {v : Value} {l : List CartC} (h : CrsI w base v l) (hb : Below w.heap.size w w') : CrsI w' base v l :=
 ⟨h.row.kept (row := none) ⟨hb.os, hb.tape, hb.output, hb.size, fun j hj _ => hb.block j hj⟩ (by rcases v.ownBlock with _ | q; exact .inl rfl; exact .inr (fun e => by cases e)), fun i hi => (Crt.below (h.crt i hi) hb (Nat.le_refl _)).more (Nat.le_refl _) hb.size (Nat.le_refl _)⟩
theorem CrsI.push {z0 : World} {base : Nat} {v : Value} {l : List CartC} (h : CrsI z0 base v l) (hbz : base ≤ z0.heap.size) (hl : l.length ≤ 100) (x : CartC) (hx : CrtC z0 base z0.heap.size x) :
  ∃ va vc z3, (Builtin.append_ #[79, 79] 79 #[v, .slice (some ⟨z0.heap.size, 0, none⟩) 1 1]).run Tryz.prog (z0.alloc (.cells #[.slice x.va 4 x.vc, .slice x.oa x.no x.oc] 49)) = .ok (.slice va (l.length + 1) vc) z3 ∧ CrsI z3 base (.slice va (l.length + 1) vc) (l ++ [x]) ∧ Below base z0 z3 := by
 obtain ⟨i0, hi, hz0, hz1, hz2⟩ := info_parts infoCartC
 have row2 := h.row.alloc (.cells #[.slice x.va 4 x.vc, .slice x.oa x.no x.oc] 49)
 obtain ⟨v', z3, hrun, hown, hgr, _⟩ := run_append_own (P := Tryz.prog) (z0.alloc (.cells #[.slice x.va 4 x.vc, .slice x.oa x.no x.oc] 49)) base 79 79 49 i0 (.agg #[.slice none 0 0, .slice none 0 0]) 2 48 Tryz.underlying79 hi hz0 hz1 hz2 rfl (by decide) v l.length (flatC l) row2 ⟨z0.heap.size, 0, none⟩ 1 1 (cRow x) rfl
  (by
   intro j u hj
   have hn := heap_alloc_new z0 (.cells #[.slice x.va 4 x.vc, .slice x.oa x.no x.oc] 49)
   obtain ⟨p0, p1⟩ := pair_cells hn
   match j, hj with
   | 0, hj => simp [cRow] at hj; subst hj; simp only [Addr.add]; exact p0
   | 1, hj => simp [cRow] at hj; subst hj; simp only [Addr.add]; exact p1)
  (by intro u hu; simp [cRow] at hu; rcases hu with rfl | rfl <;> rfl) (by unfold maxLen; omega) (by omega) (by show _ ≤ (z0.heap.push _).size; simp; omega)
 obtain ⟨va, vc, rfl⟩ : ∃ va vc, v' = .slice va (l.length + 1) vc := by
  rcases hown.2 with ⟨_, e2⟩ | ⟨_, c2, _, e2, _⟩
  ·omega
  ·exact ⟨_, c2, e2⟩
 have kb : ∀ j, j < z0.heap.size → (z0.alloc (.cells #[.slice x.va 4 x.vc, .slice x.oa x.no x.oc] 49)).heap[j]? = z0.heap[j]? := fun j hj => Below.heap_alloc _ _ _ hj
 have hsa : z0.heap.size < (z0.alloc (.cells #[.slice x.va 4 x.vc, .slice x.oa x.no x.oc] 49)).heap.size := by show _ < (z0.heap.push _).size; simp
 have hrl : ∀ j, v.ownBlock = some j → base ≤ j := fun j hj => (row2.lt j hj).1
 have k3 : ∀ j, j < z0.heap.size → v.ownBlock ≠ some j → z3.heap[j]? = z0.heap[j]? := fun j hj hne => (hgr.block j (by omega) (fun e => hne e.symm)).trans (kb j hj)
 have hs3 := hgr.size
 have keep : ∀ y : CartC, CrtC z0 base z0.heap.size y → CrtC z3 base z3.heap.size y := fun y hy => by
  refine Crt.more ?_ (Nat.le_refl base) (by omega : z0.heap.size ≤ z3.heap.size) (Nat.le_refl 400)
  rcases hv : v.ownBlock with _ | q
  ·exact Crt.kept hy fun j _ h2 => k3 j h2 (by rw [hv]; intro e; cases e)
  ·rcases h.row.2 with ⟨e2, _⟩ | ⟨q', cap, cu, e2, _, hq, _⟩
   ·rw [e2] at hv; simp [Value.ownBlock] at hv
   ·rw [e2] at hv
    have e3 : q' = q := by simpa [Value.ownBlock] using hv
    subst e3
    refine Crt.other hy hq fun j _ h2 hne => k3 j h2 ?_
    rw [e2]
    intro e
    simp [Value.ownBlock] at e
    exact hne e.symm
 have b3 : Below base z0 z3 := ((Below.refl base z0).alloc hbz _).grown hgr (by omega) fun q hq => hrl q hq
 refine ⟨va, vc, z3, hrun, ⟨?_, fun i hi' => ?_⟩, b3⟩
 ·rw [flatC_snoc, List.length_append]
  exact hown
 ·by_cases e : i = l.length
  ·subst e
   rw [cAt_new]
   exact keep x hx
  ·have hil : i < l.length := by simp at hi'; omega
   rw [cAt_old hil]
   exact keep _ (h.crt i hil)
/-- A row of n carts in block q of the call's own. -/
structure CrsR (w : World) (base q : Nat) (l : List CartC) : Prop where
 lo : base ≤ q
 cells : ∃ cs, w.heap[q]? = some (.cells cs 49 (0, 0)) ∧ ∀ i, i < l.length → cs[i * 2]? = some (.slice (cAt l i).va 4 (cAt l i).vc) ∧ cs[i * 2 + 1]? = some (.slice (cAt l i).oa (cAt l i).no (cAt l i).oc)
 crt : ∀ i, i < l.length → CrtC w base w.heap.size (cAt l i)
theorem CrsI.form {w : World} {base : Nat} {v : Value} {l : List CartC} (h : CrsI w base v l) (hn : 0 < l.length) : ∃ q c, v = .slice (some ⟨q, 0, none⟩) l.length c ∧ CrsR w base q l := by
 rcases h.row.2 with ⟨_, e2⟩ | ⟨q, cap, cu, e2, hlo, hq, _, _, _, hx⟩
 ·omega
 ·have hat : ∀ (j : Nat) (u : Value), (flatC l)[j]? = some u → cu[j]? = some u := fun j u hu => by
   rw [← hx, List.getElem?_take] at hu
   split at hu
   ·simpa using hu
   ·cases hu
  refine ⟨q, cap, e2, hlo, ⟨cu, hq, fun i hi => ?_⟩, h.crt⟩
  obtain ⟨c0, c1⟩ := flatC_at l i hi
  exact ⟨hat _ _ c0, hat _ _ c1⟩
theorem grown_below {w w' : World} {g : Nat} (h : Below w.heap.size w w') : w.grownBy w' (some g) := ⟨h.os, h.tape, h.output, h.size, fun k hk _ => h.block k hk⟩
end Go.Proofs.YtgagchlcafdiaaaGreat
