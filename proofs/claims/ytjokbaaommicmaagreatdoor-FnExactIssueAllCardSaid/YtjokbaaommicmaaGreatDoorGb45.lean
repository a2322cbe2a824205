/- Walks and mathematics that several claims share, part 45. -/
import Derived.Test.YtjokbaaommicmaaGreatDoorGb41
import Derived.Test.YtjokbaaommicmaaGreatDoorGb35
import Derived.Test.YtjokbaaommicmaaGreatDoorGb15
import Derived.Sort.Walk0
import Derived.Deep.CutRange
import Derived.Deep.CutBlock
import Derived.Test.YtjokbaaommicmaaGreatDoorGbA
namespace Go.Proofs.YtjokbaaommicmaaGreatDoor
set_option maxRecDepth 100000
open Go.RowKit
set_option linter.unusedVariables false

theorem bytes_ltT (a b : ByteArray) : Op.bytesLess a.toList b.toList = ltT a b := bytesLess_eq _ _
def ItxP (L : List ByteArray) (w : World) (e : Ending) (w' : World) : Prop :=
 ∃ g c, e = .returned (.slice (some ⟨g, 0, none⟩) L.length c) ∧ OwnStrs w' w.heap.size w'.heap.size (some ⟨g, 0, none⟩) L.length L ∧ Below w.heap.size w w'
theorem own_at {w : World} {base n c : Nat} {a : Option Addr} {L : List ByteArray} (h : w.ownsRow base 9 1 (.slice a n c) n (L.map Value.string)) : OwnStrs w base w.heap.size a n L := by
 obtain ⟨a', c', e, ho⟩ := ownStrs_of_row h
 injection e with e1 e2 e3
 subst e1
 exact ho
theorem items_next {l : List OpV} {k i : Nat} {L : List ByteArray} {s : ByteArray} (_hk : k < l.length) (hL : namesTo l k = L) (hs : s = (atOp l k).item) (hi : i ≤ L.length) (h1 : ∀ q, q < i → ltT (L.getD q ⟨#[]⟩) s = true) (h2 : i < L.length → ltT (L.getD i ⟨#[]⟩) s = false) :
  namesTo l (k + 1) = if (i < L.length ∧ L.getD i ⟨#[]⟩ = s) ∨ ¬ levTo s l l.length % 2 = 1 then L else L.take i ++ [s] ++ L.drop i := by
 have e : (l.getD k OpV.zero).item = s := hs.symm
 rw [namesTo, e, hL]
 by_cases hl : levTo s l l.length % 2 = 1
 ·rw [if_pos hl, insT_at s L i hi h1 h2]
  by_cases hc : i < L.length ∧ L.getD i ⟨#[]⟩ = s
  ·rw [if_pos hc, if_pos (.inl hc)]
  ·rw [if_neg hc, if_neg (fun h => h.elim hc (fun h => h hl)), List.append_assoc]
   rfl
 ·rw [if_neg hl, if_pos (.inr hl)]
set_option maxHeartbeats 40000000 in
theorem l5ItemsX (w : World) (B : Nat) (av ao : Option Addr) (nv cv no co : Nat) (xs : List Int) (l : List OpV) (h : Ops w B ao no l) (hB : B ≤ w.heap.size) (hn : no ≤ 1048576) (hc : cartB xs l = true) :
  Calls Tryz.prog 91 #[.agg #[.slice av nv cv, .slice ao no co]] w (ItxP (namesTo l l.length) w) := by
 obtain rfl := h.1
 have HC := Lib.hid hc
 clear hc
 have hb0 : Below w.heap.size w (w.alloc (.cells #[.slice av nv cv, .slice ao l.length co] 32)) := (Below.refl _ w).alloc (Nat.le_refl _) _
 have HO := Lib.hid (h.below hb0 hB)
 have HB := Lib.hid hb0
 have HX := Lib.hid (boxAt (Below.refl _ (w.alloc (.cells #[.slice av nv cv, .slice ao l.length co] 32))))
 have hsz : (w.alloc (.cells #[.slice av nv cv, .slice ao l.length co] 32)).heap.size = w.heap.size + 1 := by show (w.heap.push _).size = _; simp
 clear h hb0
 go_enter Tryz.func91, Tryz.ntmps91
 go_wp2
 obtain ⟨w0, hw0⟩ : ∃ w0, w0 = w.alloc (.cells #[.slice av nv cv, .slice ao l.length co] 32) := ⟨_, rfl⟩
 rw [← hw0] at HO HB HX hsz ⊢
 clear hw0
 have hr0 := World.ownsRow_made (e := 9) (size := 1) (base := w.heap.size + 1) w0 #[] 0 (by omega) (by unfold maxLen; omega) rfl
 rw [hsz] at hr0
 have HR0 := Lib.hid hr0
 have HW0 : Hid (Below (w.heap.size + 1) w0 (w0.alloc (.cells #[] 9))) := (Below.refl _ _).alloc (by omega) _
 have hsz1 : w0.heap.size ≤ w.heap.size + 1 := by omega
 have hsz2 : w.heap.size + 1 ≤ w0.heap.size := by omega
 clear hsz hr0
 go_loopw [3, 4] (fun v i wr => ∃ (k : Nat) (L : List ByteArray) (g c : Nat), k ≤ l.length ∧ i = .int .i64 (k : Int) ∧ v = .slice (some ⟨g, 0, none⟩) L.length c ∧ Hid (L.length ≤ k) ∧ Hid (namesTo l k = L) ∧ Hid (wr.ownsRow (w.heap.size + 1) 9 1 (.slice (some ⟨g, 0, none⟩) L.length c) L.length (L.map Value.string)) ∧ Hid (Below (w.heap.size + 1) w0 wr)) (fun _ i _ => l.length - (intOf i).toNat)
 case atStart => exact ⟨0, [], _, _, Nat.zero_le _, rfl, rfl, Nat.le_refl _, rfl, HR0.out, HW0.out⟩
 case round =>
  obtain ⟨k, L, g, c, hk, rfl, rfl, HLk, HLt, HR, HBr⟩ := hrel
  have hLk : L.length ≤ l.length := Nat.le_trans HLk.out hk
  have hbs := HBr.out.size
  have hcap : L.length ≤ c := (caps_of_row HR.out).1
  have HBx := Lib.hid ((HBr.out.block w.heap.size (by omega)).trans HX.out)
  obtain ⟨c0, c1⟩ := pair_cells HBx.out
  by_cases hlt : k < l.length
  ·obtain ⟨b, off, rfl, hb, ho⟩ := (HO.out.below HBr.out (by omega)).2 k hlt
   have hki : (k : Int) < (l.length : Int) := by omega
   have c4 := ho.2.2.2.2.1
   obtain ⟨s, hs⟩ : ∃ s, s = (l.getD k OpV.zero).item := ⟨_, rfl⟩
   rw [← hs] at c4
   have HSe : Hid (s = (atOp l k).item) := hs
   have HStr := Lib.hid (strsI_of_row HR.out)
   clear ho hs
   go_upto_block 2 with fail
   clear c4 c0 c1
   go_cut [6] from 9 to 67 (fun j wx => wx = wr ∧ ∃ i : Nat, i ≤ L.length ∧ j = .int .i64 (i : Int) ∧ Hid (∀ q, q < i → ltT (L.getD q ⟨#[]⟩) s = true) ∧ Hid (i < L.length → ltT (L.getD i ⟨#[]⟩) s = false))
   case first =>
    go_wp2
    go_loop [6] (fun j => ∃ i : Nat, i ≤ L.length ∧ j = .int .i64 (i : Int) ∧ Hid (∀ q, q < i → ltT (L.getD q ⟨#[]⟩) s = true)) (fun j => L.length - (intOf j).toNat)
    case atStart => exact ⟨0, Nat.zero_le _, rfl, fun q hq => absurd hq (by omega)⟩
    case round =>
     obtain ⟨i, hi, rfl, HLe⟩ := hrel
     by_cases hil : i < L.length
     ·obtain ⟨b2, o2, e2, hb2, hcc⟩ := HStr.out.2 i hil
      injection e2 with e2
      injection e2 with e3 e4
      subst e3 e4
      rw [Nat.zero_add] at hcc
      obtain ⟨x, hx⟩ : ∃ x, x = L.getD i ⟨#[]⟩ := ⟨_, rfl⟩
      rw [← hx] at hcc
      have hii : (i : Int) < (L.length : Int) := by omega
      have HXx := Lib.hid hx
      clear hx
      rcases hl : Op.bytesLess x.toList s.toList with _ | _
      ·have HF : Hid (i < L.length → ltT (L.getD i ⟨#[]⟩) s = false) := fun _ => by rw [← HXx.out]; exact (bytes_ltT _ _).symm.trans hl
       go_wp2
       go_meet
       exact ⟨rfl, i, hi, rfl, HLe, HF⟩
      ·have HS : Hid (∀ q, q < i + 1 → ltT (L.getD q ⟨#[]⟩) s = true) := fun q hq => by
        rcases Nat.lt_or_ge q i with h1 | h1
        ·exact HLe.out q h1
        ·obtain rfl : q = i := by omega
         rw [← HXx.out]; exact (bytes_ltT _ _).symm.trans hl
       go_wp2
       exact ⟨⟨i + 1, by omega, by go_num, HS⟩, by simp [intOf]; omega⟩
     ·have HF : Hid (i < L.length → ltT (L.getD i ⟨#[]⟩) s = false) := fun h => absurd h hil
      go_wp2
      go_meet
      exact ⟨rfl, i, hi, rfl, HLe, HF⟩
   case rest =>
    obtain ⟨hwc, i, hi, rfl, HLe, HFe⟩ := hcut
    subst hwc
    obtain ⟨c0, c1⟩ := pair_cells HBx.out
    go_upto_region 9 with fail
    have HNx := Lib.hid (items_next hlt HLt.out HSe.out hi HLe.out HFe.out)
    go_cut [53] from 9 to 67 (fun bv wx => (∃ bb : Bool, bv = .bool bb ∧ Hid (namesTo l (k + 1) = if bb = true then L else L.take i ++ [s] ++ L.drop i)) ∧ Hid (Below wc.heap.size wc wx))
    case first =>
     by_cases hil : i < L.length
     ·obtain ⟨b2, o2, e2, hb2, hcc⟩ := HStr.out.2 i hil
      injection e2 with e2
      injection e2 with e3 e4
      subst e3 e4
      rw [Nat.zero_add] at hcc
      obtain ⟨x, hx⟩ : ∃ x, x = L.getD i ⟨#[]⟩ := ⟨_, rfl⟩
      rw [← hx] at hcc
      have hii : (i : Int) < (L.length : Int) := by omega
      by_cases hxs : (x.toList == s.toList) = true
      ·have HE : Hid (namesTo l (k + 1) = if true = true then L else L.take i ++ [s] ++ L.drop i) := by
        show _ = L
        rw [HNx.out, if_pos (.inl ⟨hil, by rw [← hx]; exact textT (by simpa using hxs)⟩)]
       clear hx
       go_wp2
       go_meet
       exact ⟨⟨_, rfl, HE⟩, Below.refl _ _⟩
      ·have hxs' : (x.toList == s.toList) = false := by simpa using hxs
       have HE : Hid (∀ b : Bool, decide (levTo s l l.length % 2 = 1) = b → namesTo l (k + 1) = if (!b) = true then L else L.take i ++ [s] ++ L.drop i) := by
        intro b hb
        rw [HNx.out]
        have h1 : ¬ (i < L.length ∧ L.getD i ⟨#[]⟩ = s) := fun h => hxs (by rw [hx, h.2]; exact beq_self_eq_true _)
        cases b
        ·rw [if_pos (.inr (of_decide_eq_false hb))]; rfl
        ·rw [if_neg (fun h => h.elim h1 (fun h => h (of_decide_eq_true hb)))]; rfl
       clear hxs hx
       go_wp2_with fail
       refine (l5There wc B av _ nv cv l.length co xs l s (HO.out.below HBr.out (by omega)) (by omega) hn HC.out).mono ?_
       rintro e w2 ⟨rfl, hb3⟩
       obtain ⟨tb, htb⟩ : ∃ b, decide (levTo s l l.length % 2 = 1) = b := ⟨_, rfl⟩
       have HTb := Lib.hid (HE.out tb htb)
       rw [htb]
       clear htb
       go_wp2
       all_goals (go_meet; exact ⟨⟨_, rfl, HTb⟩, hb3⟩)
     ·have HE : Hid (∀ b : Bool, decide (levTo s l l.length % 2 = 1) = b → namesTo l (k + 1) = if (!b) = true then L else L.take i ++ [s] ++ L.drop i) := by
       intro b hb
       rw [HNx.out]
       cases b
       ·rw [if_pos (.inr (of_decide_eq_false hb))]; rfl
       ·rw [if_neg (fun h => h.elim (fun h => hil h.1) (fun h => h (of_decide_eq_true hb)))]; rfl
      go_wp2_with fail
      refine (l5There wc B av _ nv cv l.length co xs l s (HO.out.below HBr.out (by omega)) (by omega) hn HC.out).mono ?_
      rintro e w2 ⟨rfl, hb3⟩
      obtain ⟨tb, htb⟩ : ∃ b, decide (levTo s l l.length % 2 = 1) = b := ⟨_, rfl⟩
      have HTb := Lib.hid (HE.out tb htb)
      rw [htb]
      clear htb
      go_wp2
      all_goals (go_meet; exact ⟨⟨_, rfl, HTb⟩, hb3⟩)
    case rest =>
     obtain ⟨⟨bb, rfl, HBb⟩, HW⟩ := hcut
     clear c0 c1
     have hw2 := HW.out.size
     have HB2 := Lib.hid (HBr.out.trans (HW.out.mono (by omega)))
     have HR2 : Hid (wc.ownsRow (w.heap.size + 1) 9 1 (.slice (some ⟨g, 0, none⟩) L.length c) L.length (L.map Value.string)) := HR.out.kept (row := none) ⟨HW.out.os, HW.out.tape, HW.out.output, HW.out.size, fun j hj _ => HW.out.block j hj⟩ (.inr (by simp [Value.ownBlock]))
     have HS2 := Lib.hid (strsI_of_row HR2.out)
     cases bb
     ·have hi63 : i ≤ c := by omega
      have hb0 : Below wc.heap.size wc (wc.alloc (.cells #[] 9)) := bl
      have hr0 : (wc.alloc (.cells #[] 9)).ownsRow wc.heap.size 9 1 (.slice (some ⟨wc.heap.size, 0, none⟩) 0 0) 0 (([] : List ByteArray).map Value.string) := World.ownsRow_made wc #[] 0 (Nat.le_refl _) (by unfold maxLen; omega) rfl
      have hTk := (HS2.out.below hb0 (Nat.le_refl _)).take hi
      go_upto_region 10 with fail
      by_cases hci : i = c
      ·obtain rfl : i = c := hci
       have hiL : L.length ≤ i := by omega
       obtain ⟨v1, w3, hrun1, hr1, hgr1⟩ := appStrs _ wc.heap.size _ 0 [] hr0 (wc.heap.size) (some ⟨g, 0, none⟩) i i (L.take i) hTk (fun h => by cases h) (by omega) hb0.size
       have hr1' : w3.ownsRow wc.heap.size 9 1 v1 i ((L.take i).map Value.string) := by simpa using hr1
       have hB3 : Below wc.heap.size wc w3 := hb0.grown hgr1 hb0.size (fun j hj => (hr0.lt j hj).1)
       clear hr1 hgr1 hr0
       have hbA : Below wc.heap.size w3 (w3.alloc (.cells #[.string s] 9)) := (Below.refl _ _).alloc hB3.size _
       have hOne : StrsI (w3.alloc (.cells #[.string s] 9)) (w3.heap.size + 1) (some ⟨w3.heap.size, 0, none⟩) 1 [s] := one_strI w3 s
       have hrA := hr1'.alloc (.cells #[.string s] 9)
       obtain ⟨v2, w4, hrun2, hr2, hgr2⟩ := appStrs _ wc.heap.size v1 i (L.take i) hrA (w3.heap.size + 1) (some ⟨w3.heap.size, 0, none⟩) 1 1 [s] hOne (fun h => by cases h) (by omega) (Nat.le_trans hB3.size hbA.size)
       have hB4 : Below wc.heap.size wc w4 := hB3.trans (hbA.grown hgr2 (Nat.le_trans hB3.size hbA.size) (fun j hj => (hrA.lt j hj).1))
       have hSr : StrsI w4 wc.heap.size (some ⟨g, 0, none⟩) 0 (L.drop i) := ⟨by rw [List.length_drop]; omega, fun j hj => absurd hj (by omega)⟩
       obtain ⟨v3, w5, hrun3, hr3, hgr3⟩ := appStrs w4 wc.heap.size v2 (i + 1) _ hr2 wc.heap.size (some ⟨g, 0, none⟩) 0 0 (L.drop i) hSr (fun h => by cases h) (by omega) hB4.size
       have hB5 : Below wc.heap.size wc w5 := hB4.grown hgr3 hB4.size (fun j hj => (hr2.lt j hj).1)
       obtain ⟨g5, c5, rfl⟩ : ∃ g5 c5, v3 = .slice (some ⟨g5, 0, none⟩) (i + 1 + 0) c5 := by
        rcases hr3.2 with ⟨_, e2⟩ | ⟨g5, c5, _, e2, _⟩
        ·omega
        ·exact ⟨g5, c5, e2⟩
       have hll : (L.take i ++ [s] ++ L.drop i).length = i + 1 + 0 := by simp; omega
       have HR5 : Hid (w5.ownsRow (w.heap.size + 1) 9 1 (.slice (some ⟨g5, 0, none⟩) (i + 1 + 0) c5) (i + 1 + 0) ((L.take i ++ [s] ++ L.drop i).map Value.string)) := own_wide hr3 (by omega)
       have HB5 : Hid (Below (w.heap.size + 1) w0 w5) := HB2.out.trans (hB5.mono (by omega))
       have HL5 : Hid ((L.take i ++ [s] ++ L.drop i).length ≤ k + 1) := by have := HLk.out; show _ ≤ _; rw [hll]; omega
       have HS5 : Hid (namesTo l (k + 1) = L.take i ++ [s] ++ L.drop i) := HBb.out
       clear hr1' hr2 hr3 hgr2 hgr3 hB3 hB4 hB5 hbA hOne hrA hSr
       go_upto_region 11 with (at_builtin; refine wpListApp rfl _ _ _ rfl _ _ rfl rfl hrun1 ?_)
       go_upto_region 12 with (at_builtin; refine wpListApp rfl _ _ _ rfl _ _ rfl rfl hrun2 ?_)
       go_upto_region 4 with (at_builtin; refine wpListApp rfl _ _ _ rfl _ _ rfl rfl hrun3 ?_)
       go_wp2
       go_roundw
       case rel => exact ⟨k + 1, L.take i ++ [s] ++ L.drop i, g5, c5, by omega, by go_num, by first | rw [hll] | (rw [hll]; rfl), HL5, HS5, by rw [hll]; exact HR5, HB5⟩
       case measure => simp [intOf]; omega
      ·have hcc : ¬ (c : Int) = (i : Int) := by omega
       obtain ⟨v1, w3, hrun1, hr1, hgr1⟩ := appStrs _ wc.heap.size _ 0 [] hr0 (wc.heap.size) (some ⟨g, 0, none⟩) i c (L.take i) hTk (fun h => by cases h) (by omega) hb0.size
       have hr1' : w3.ownsRow wc.heap.size 9 1 v1 i ((L.take i).map Value.string) := by simpa using hr1
       have hB3 : Below wc.heap.size wc w3 := hb0.grown hgr1 hb0.size (fun j hj => (hr0.lt j hj).1)
       clear hr1 hgr1 hr0
       have hbA : Below wc.heap.size w3 (w3.alloc (.cells #[.string s] 9)) := (Below.refl _ _).alloc hB3.size _
       have hOne : StrsI (w3.alloc (.cells #[.string s] 9)) (w3.heap.size + 1) (some ⟨w3.heap.size, 0, none⟩) 1 [s] := one_strI w3 s
       have hrA := hr1'.alloc (.cells #[.string s] 9)
       obtain ⟨v2, w4, hrun2, hr2, hgr2⟩ := appStrs _ wc.heap.size v1 i (L.take i) hrA (w3.heap.size + 1) (some ⟨w3.heap.size, 0, none⟩) 1 1 [s] hOne (fun h => by cases h) (by omega) (Nat.le_trans hB3.size hbA.size)
       have hB4 : Below wc.heap.size wc w4 := hB3.trans (hbA.grown hgr2 (Nat.le_trans hB3.size hbA.size) (fun j hj => (hrA.lt j hj).1))
       have hSr : StrsI w4 wc.heap.size (some ⟨g, i, none⟩) (L.length - i) (L.drop i) := ((HS2.out.below hB4 (Nat.le_refl _)).drop hi)
       obtain ⟨v3, w5, hrun3, hr3, hgr3⟩ := appStrs w4 wc.heap.size v2 (i + 1) _ hr2 wc.heap.size (some ⟨g, i, none⟩) (L.length - i) (c - i) (L.drop i) hSr (fun h => by cases h) (by omega) hB4.size
       have hB5 : Below wc.heap.size wc w5 := hB4.grown hgr3 hB4.size (fun j hj => (hr2.lt j hj).1)
       obtain ⟨g5, c5, rfl⟩ : ∃ g5 c5, v3 = .slice (some ⟨g5, 0, none⟩) (i + 1 + (L.length - i)) c5 := by
        rcases hr3.2 with ⟨_, e2⟩ | ⟨g5, c5, _, e2, _⟩
        ·omega
        ·exact ⟨g5, c5, e2⟩
       have hll : (L.take i ++ [s] ++ L.drop i).length = i + 1 + (L.length - i) := by simp; omega
       have HR5 : Hid (w5.ownsRow (w.heap.size + 1) 9 1 (.slice (some ⟨g5, 0, none⟩) (i + 1 + (L.length - i)) c5) (i + 1 + (L.length - i)) ((L.take i ++ [s] ++ L.drop i).map Value.string)) := own_wide hr3 (by omega)
       have HB5 : Hid (Below (w.heap.size + 1) w0 w5) := HB2.out.trans (hB5.mono (by omega))
       have HL5 : Hid ((L.take i ++ [s] ++ L.drop i).length ≤ k + 1) := by have := HLk.out; show _ ≤ _; rw [hll]; omega
       have HS5 : Hid (namesTo l (k + 1) = L.take i ++ [s] ++ L.drop i) := HBb.out
       clear hr1' hr2 hr3 hgr2 hgr3 hB3 hB4 hB5 hbA hOne hrA hSr
       go_upto_region 11 with (at_builtin; refine wpListApp rfl _ _ _ rfl _ _ rfl rfl hrun1 ?_)
       go_upto_region 12 with (at_builtin; refine wpListApp rfl _ _ _ rfl _ _ rfl rfl hrun2 ?_)
       go_upto_region 4 with (at_builtin; refine wpListApp rfl _ _ _ rfl _ _ rfl rfl hrun3 ?_)
       go_wp2
       go_roundw
       case rel => exact ⟨k + 1, L.take i ++ [s] ++ L.drop i, g5, c5, by omega, by go_num, by first | rw [hll] | (rw [hll]; rfl), HL5, HS5, by rw [hll]; exact HR5, HB5⟩
       case measure => simp [intOf]; omega
     ·go_upto_region 4 with fail
      go_wp2
      go_roundw
      case rel => exact ⟨k + 1, L, g, c, by omega, by go_num, rfl, Nat.le_succ_of_le HLk.out, HBb, HR2, HB2⟩
      case measure => simp [intOf]; omega
  ·obtain rfl : k = l.length := by omega
   have HStr := Lib.hid ((own_at HR.out).more (Nat.le_succ _) (Nat.le_refl _))
   have HZ := Lib.hid (HB.out.trans (HBr.out.mono (by omega)))
   go_wp2
   go_ret
   exact ⟨g, c, by rw [HLt.out]; rfl, by rw [HLt.out]; exact HStr.out, HZ.out⟩
end Go.Proofs.YtjokbaaommicmaaGreatDoor
