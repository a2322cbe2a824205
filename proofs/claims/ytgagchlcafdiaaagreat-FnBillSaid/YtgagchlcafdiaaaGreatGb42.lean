/- Walks and mathematics that several claims share, part 42. -/
import Derived.Test.YtgagchlcafdiaaaGreatGb22
import Derived.Test.YtgagchlcafdiaaaGreatGb40
import Derived.Test.YtgagchlcafdiaaaGreatGb41
import Derived.Test.YtgagchlcafdiaaaGreatGb15
import Derived.Test.YtgagchlcafdiaaaGreatGb9
import Derived.Test.YtgagchlcafdiaaaGreatGb18
import Derived.Sort.Walk0
import Derived.Deep.CutRange
import Derived.Deep.CutBlock
import Derived.Deep.Cut
import Derived.Test.YtgagchlcafdiaaaGreatGbA
namespace Go.Proofs.YtgagchlcafdiaaaGreat
set_option maxRecDepth 100000
open Go.RowKit
set_option linter.unusedVariables false
set_option linter.unusedSimpArgs false
set_option linter.unusedVariables false

theorem bytes_ltT (a b : ByteArray) : Op.bytesLess a.toList b.toList = ltT a b := bytesLess_eq _ _
def ItxP (L : List ByteArray) (w : World) (e : Ending) (w' : World) : Prop :=
 ∃ g c, e = .returned (.slice (some ⟨g, 0, none⟩) L.length c) ∧ OwnStrs w' w.heap.size w'.heap.size (some ⟨g, 0, none⟩) L.length L ∧ Below w.heap.size w w'
theorem own_at {w : World} {base n c : Nat} {a : Option Addr} {L : List ByteArray} (h : w.ownsRow base 9 1 (.slice a n c) n (L.map Value.string)) : OwnStrs w base w.heap.size a n L := by
 obtain ⟨a', c', e, ho⟩ := ownStrs_of_row h
 injection e with e1 e2 e3
 subst e1
 exact ho
theorem items_next {l : List OpV} {k i : Nat} {L : List ByteArray} {s : ByteArray} (_hk : k < l.length) (hL : namesTo l k = L) (hs : s = (atOp l k).item) (hi : i ≤ L.length) (h1 : ∀ q, q < i → ltT (L.getD q ⟨#[]⟩) s = true) (h2 : i < L.length → ltT (L.getD i ⟨#[]⟩) s = false) :
  namesTo l (k + 1) = if (i < L.length ∧ L.getD i ⟨#[]⟩ = s) ∨ ¬ levTo s l l.length % 2 = 1 then L else L.take i ++ [s] ++ L.drop i := by
 have e : (l.getD k OpV.zero).item = s := hs.symm
 rw [namesTo, e, hL]
 by_cases hl : levTo s l l.length % 2 = 1
 ·rw [if_pos hl, insT_at s L i hi h1 h2]
  by_cases hc : i < L.length ∧ L.getD i ⟨#[]⟩ = s
  ·rw [if_pos hc, if_pos (.inl hc)]
  ·rw [if_neg hc, if_neg (fun h => h.elim hc (fun h => h hl)), List.append_assoc]
   rfl
 ·rw [if_neg hl, if_pos (.inr hl)]
set_option maxHeartbeats 40000000 in
theorem l5ItemsX (w : World) (B : Nat) (av ao : Option Addr) (nv cv no co : Nat) (xs : List Int) (l : List OpV) (h : Ops w B ao no l) (hB : B ≤ w.heap.size) (hn : no ≤ 1048576) (hc : cartB xs l = true) :
  Calls Tryz.prog 60 #[.agg #[.slice av nv cv, .slice ao no co]] w (ItxP (namesTo l l.length) w) := by
 obtain rfl := h.1
 have HC := Lib.hid hc
 clear hc
 have hb0 : Below w.heap.size w (w.alloc (.cells #[.slice av nv cv, .slice ao l.length co] 49)) := (Below.refl _ w).alloc (Nat.le_refl _) _
 have HO := Lib.hid (h.below hb0 hB)
 have HB := Lib.hid hb0
 have HX := Lib.hid (boxAt (Below.refl _ (w.alloc (.cells #[.slice av nv cv, .slice ao l.length co] 49))))
 have hsz : (w.alloc (.cells #[.slice av nv cv, .slice ao l.length co] 49)).heap.size = w.heap.size + 1 := by show (w.heap.push _).size = _; simp
 clear h hb0
 go_enter Tryz.func60, Tryz.ntmps60
 go_wp2
 obtain ⟨w0, hw0⟩ : ∃ w0, w0 = w.alloc (.cells #[.slice av nv cv, .slice ao l.length co] 49) := ⟨_, rfl⟩
 rw [← hw0] at HO HB HX hsz ⊢
 clear hw0
 have hr0 := World.ownsRow_made (e := 9) (size := 1) (base := w.heap.size + 1) w0 #[] 0 (by omega) (by unfold maxLen; omega) rfl
 rw [hsz] at hr0
 have HR0 := Lib.hid hr0
 have HW0 : Hid (Below (w.heap.size + 1) w0 (w0.alloc (.cells #[] 9))) := (Below.refl _ _).alloc (by omega) _
 have hsz1 : w0.heap.size ≤ w.heap.size + 1 := by omega
 have hsz2 : w.heap.size + 1 ≤ w0.heap.size := by omega
 clear hsz hr0
 go_loopw [3, 4] (fun v i wr => ∃ (k : Nat) (L : List ByteArray) (g c : Nat), k ≤ l.length ∧ i = .int .i64 (k : Int) ∧ v = .slice (some ⟨g, 0, none⟩) L.length c ∧ Hid (L.length ≤ k) ∧ Hid (namesTo l k = L) ∧ Hid (wr.ownsRow (w.heap.size + 1) 9 1 (.slice (some ⟨g, 0, none⟩) L.length c) L.length (L.map Value.string)) ∧ Hid (Below (w.heap.size + 1) w0 wr)) (fun _ i _ => l.length - (intOf i).toNat)
 case atStart => exact ⟨0, [], _, _, Nat.zero_le _, rfl, rfl, Nat.le_refl _, rfl, HR0.out, HW0.out⟩
 case round =>
  obtain ⟨k, L, g, c, hk, rfl, rfl, HLk, HLt, HR, HBr⟩ := hrel
  have hLk : L.length ≤ l.length := Nat.le_trans HLk.out hk
  have hbs := HBr.out.size
  have hcap : L.length ≤ c := (caps_of_row HR.out).1
  have HBx := Lib.hid ((HBr.out.block w.heap.size (by omega)).trans HX.out)
  obtain ⟨c0, c1⟩ := pair_cells HBx.out
  by_cases hlt : k < l.length
  ·obtain ⟨b, off, rfl, hb, ho⟩ := (HO.out.below HBr.out (by omega)).2 k hlt
   have hki : (k : Int) < (l.length : Int) := by omega
   have c4 := ho.2.2.2.2.1
   obtain ⟨s, hs⟩ : ∃ s, s = (l.getD k OpV.zero).item := ⟨_, rfl⟩
   rw [← hs] at c4
   have HSe : Hid (s = (atOp l k).item) := hs
   have HStr := Lib.hid (strsI_of_row HR.out)
   clear ho hs
   go_upto_block 2 with fail
   clear c4 c0 c1
   go_cut [6] from 9 to 67 (fun j wx => wx = wr ∧ ∃ i : Nat, i ≤ L.length ∧ j = .int .i64 (i : Int) ∧ Hid (∀ q, q < i → ltT (L.getD q ⟨#[]⟩) s = true) ∧ Hid (i < L.length → ltT (L.getD i ⟨#[]⟩) s = false))
   case first =>
    go_wp2
    go_loop [6] (fun j => ∃ i : Nat, i ≤ L.length ∧ j = .int .i64 (i : Int) ∧ Hid (∀ q, q < i → ltT (L.getD q ⟨#[]⟩) s = true)) (fun j => L.length - (intOf j).toNat)
    case atStart => exact ⟨0, Nat.zero_le _, rfl, fun q hq => absurd hq (by omega)⟩
    case round =>
     obtain ⟨i, hi, rfl, HLe⟩ := hrel
     by_cases hil : i < L.length
     ·obtain ⟨b2, o2, e2, hb2, hcc⟩ := HStr.out.2 i hil
      injection e2 with e2
      injection e2 with e3 e4
      subst e3 e4
      rw [Nat.zero_add] at hcc
      obtain ⟨x, hx⟩ : ∃ x, x = L.getD i ⟨#[]⟩ := ⟨_, rfl⟩
      rw [← hx] at hcc
      have hii : (i : Int) < (L.length : Int) := by omega
      have HXx := Lib.hid hx
      clear hx
      rcases hl : Op.bytesLess x.toList s.toList with _ | _
      ·have HF : Hid (i < L.length → ltT (L.getD i ⟨#[]⟩) s = false) := fun _ => by rw [← HXx.out]; exact (bytes_ltT _ _).symm.trans hl
       go_wp2
       go_meet
       exact ⟨rfl, i, hi, rfl, HLe, HF⟩
      ·have HS : Hid (∀ q, q < i + 1 → ltT (L.getD q ⟨#[]⟩) s = true) := fun q hq => by
        rcases Nat.lt_or_ge q i with h1 | h1
        ·exact HLe.out q h1
        ·obtain rfl : q = i := by omega
         rw [← HXx.out]; exact (bytes_ltT _ _).symm.trans hl
       go_wp2
       exact ⟨⟨i + 1, by omega, by go_num, HS⟩, by simp [intOf]; omega⟩
     ·have HF : Hid (i < L.length → ltT (L.getD i ⟨#[]⟩) s = false) := fun h => absurd h hil
      go_wp2
      go_meet
      exact ⟨rfl, i, hi, rfl, HLe, HF⟩
   case rest =>
    obtain ⟨hwc, i, hi, rfl, HLe, HFe⟩ := hcut
    subst hwc
    obtain ⟨c0, c1⟩ := pair_cells HBx.out
    go_upto_region 9 with fail
    have HNx := Lib.hid (items_next hlt HLt.out HSe.out hi HLe.out HFe.out)
    go_cut [53] from 9 to 67 (fun bv wx => (∃ bb : Bool, bv = .bool bb ∧ Hid (namesTo l (k + 1) = if bb = true then L else L.take i ++ [s] ++ L.drop i)) ∧ Hid (Below wc.heap.size wc wx))
    case first =>
     by_cases hil : i < L.length
     ·obtain ⟨b2, o2, e2, hb2, hcc⟩ := HStr.out.2 i hil
      injection e2 with e2
      injection e2 with e3 e4
      subst e3 e4
      rw [Nat.zero_add] at hcc
      obtain ⟨x, hx⟩ : ∃ x, x = L.getD i ⟨#[]⟩ := ⟨_, rfl⟩
      rw [← hx] at hcc
      have hii : (i : Int) < (L.length : Int) := by omega
      by_cases hxs : (x.toList == s.toList) = true
      ·have HE : Hid (namesTo l (k + 1) = if true = true then L else L.take i ++ [s] ++ L.drop i) := by
        show _ = L
        rw [HNx.out, if_pos (.inl ⟨hil, by rw [← hx]; exact textT (by simpa using hxs)⟩)]
       clear hx
       go_wp2
       go_meet
       exact ⟨⟨_, rfl, HE⟩, Below.refl _ _⟩
      ·have hxs' : (x.toList == s.toList) = false := by simpa using hxs
       have HE : Hid (∀ b : Bool, decide (levTo s l l.length % 2 = 1) = b → namesTo l (k + 1) = if (!b) = true then L else L.take i ++ [s] ++ L.drop i) := by
        intro b hb
        rw [HNx.out]
        have h1 : ¬ (i < L.length ∧ L.getD i ⟨#[]⟩ = s) := fun h => hxs (by rw [hx, h.2]; exact beq_self_eq_true _)
        cases b
        ·rw [if_pos (.inr (of_decide_eq_false hb))]; rfl
        ·rw [if_neg (fun h => h.elim h1 (fun h => h (of_decide_eq_true hb)))]; rfl
       clear hxs hx
       go_wp2_with fail
       refine (l5There wc B av _ nv cv l.length co xs l s (HO.out.below HBr.out (by omega)) (by omega) hn HC.out).mono ?_
       rintro e w2 ⟨rfl, hb3⟩
       obtain ⟨tb, htb⟩ : ∃ b, decide (levTo s l l.length % 2 = 1) = b := ⟨_, rfl⟩
       have HTb := Lib.hid (HE.out tb htb)
       rw [htb]
       clear htb
       go_wp2
       all_goals (go_meet; exact ⟨⟨_, rfl, HTb⟩, hb3⟩)
     ·have HE : Hid (∀ b : Bool, decide (levTo s l l.length % 2 = 1) = b → namesTo l (k + 1) = if (!b) = true then L else L.take i ++ [s] ++ L.drop i) := by
       intro b hb
       rw [HNx.out]
       cases b
       ·rw [if_pos (.inr (of_decide_eq_false hb))]; rfl
       ·rw [if_neg (fun h => h.elim (fun h => hil h.1) (fun h => h (of_decide_eq_true hb)))]; rfl
      go_wp2_with fail
      refine (l5There wc B av _ nv cv l.length co xs l s (HO.out.below HBr.out (by omega)) (by omega) hn HC.out).mono ?_
      rintro e w2 ⟨rfl, hb3⟩
      obtain ⟨tb, htb⟩ : ∃ b, decide (levTo s l l.length % 2 = 1) = b := ⟨_, rfl⟩
      have HTb := Lib.hid (HE.out tb htb)
      rw [htb]
      clear htb
      go_wp2
      all_goals (go_meet; exact ⟨⟨_, rfl, HTb⟩, hb3⟩)
    case rest =>
     obtain ⟨⟨bb, rfl, HBb⟩, HW⟩ := hcut
     clear c0 c1
     have hw2 := HW.out.size
     have HB2 := Lib.hid (HBr.out.trans (HW.out.mono (by omega)))
     have HR2 : Hid (wc.ownsRow (w.heap.size + 1) 9 1 (.slice (some ⟨g, 0, none⟩) L.length c) L.length (L.map Value.string)) := HR.out.kept (row := none) ⟨HW.out.os, HW.out.tape, HW.out.output, HW.out.size, fun j hj _ => HW.out.block j hj⟩ (.inr (by simp [Value.ownBlock]))
     have HS2 := Lib.hid (strsI_of_row HR2.out)
     cases bb
     ·have hi63 : i ≤ c := by omega
      have hb0 : Below wc.heap.size wc (wc.alloc (.cells #[] 9)) := bl
      have hr0 : (wc.alloc (.cells #[] 9)).ownsRow wc.heap.size 9 1 (.slice (some ⟨wc.heap.size, 0, none⟩) 0 0) 0 (([] : List ByteArray).map Value.string) := World.ownsRow_made wc #[] 0 (Nat.le_refl _) (by unfold maxLen; omega) rfl
      have hTk := (HS2.out.below hb0 (Nat.le_refl _)).take hi
      go_upto_region 10 with fail
      by_cases hci : i = c
      ·obtain rfl : i = c := hci
       have hiL : L.length ≤ i := by omega
       obtain ⟨v1, w3, hrun1, hr1, hgr1⟩ := appStrs _ wc.heap.size _ 0 [] hr0 (wc.heap.size) (some ⟨g, 0, none⟩) i i (L.take i) hTk (fun h => by cases h) (by omega) hb0.size
       have hr1' : w3.ownsRow wc.heap.size 9 1 v1 i ((L.take i).map Value.string) := by simpa using hr1
       have hB3 : Below wc.heap.size wc w3 := hb0.grown hgr1 hb0.size (fun j hj => (hr0.lt j hj).1)
       clear hr1 hgr1 hr0
       have hbA : Below wc.heap.size w3 (w3.alloc (.cells #[.string s] 9)) := (Below.refl _ _).alloc hB3.size _
       have hOne : StrsI (w3.alloc (.cells #[.string s] 9)) (w3.heap.size + 1) (some ⟨w3.heap.size, 0, none⟩) 1 [s] := one_strI w3 s
       have hrA := hr1'.alloc (.cells #[.string s] 9)
       obtain ⟨v2, w4, hrun2, hr2, hgr2⟩ := appStrs _ wc.heap.size v1 i (L.take i) hrA (w3.heap.size + 1) (some ⟨w3.heap.size, 0, none⟩) 1 1 [s] hOne (fun h => by cases h) (by omega) (Nat.le_trans hB3.size hbA.size)
       have hB4 : Below wc.heap.size wc w4 := hB3.trans (hbA.grown hgr2 (Nat.le_trans hB3.size hbA.size) (fun j hj => (hrA.lt j hj).1))
       have hSr : StrsI w4 wc.heap.size (some ⟨g, 0, none⟩) 0 (L.drop i) := ⟨by rw [List.length_drop]; omega, fun j hj => absurd hj (by omega)⟩
       obtain ⟨v3, w5, hrun3, hr3, hgr3⟩ := appStrs w4 wc.heap.size v2 (i + 1) _ hr2 wc.heap.size (some ⟨g, 0, none⟩) 0 0 (L.drop i) hSr (fun h => by cases h) (by omega) hB4.size
       have hB5 : Below wc.heap.size wc w5 := hB4.grown hgr3 hB4.size (fun j hj => (hr2.lt j hj).1)
       obtain ⟨g5, c5, rfl⟩ : ∃ g5 c5, v3 = .slice (some ⟨g5, 0, none⟩) (i + 1 + 0) c5 := by
        rcases hr3.2 with ⟨_, e2⟩ | ⟨g5, c5, _, e2, _⟩
        ·omega
        ·exact ⟨g5, c5, e2⟩
       have hll : (L.take i ++ [s] ++ L.drop i).length = i + 1 + 0 := by simp; omega
       have HR5 : Hid (w5.ownsRow (w.heap.size + 1) 9 1 (.slice (some ⟨g5, 0, none⟩) (i + 1 + 0) c5) (i + 1 + 0) ((L.take i ++ [s] ++ L.drop i).map Value.string)) := own_wide hr3 (by omega)
       have HB5 : Hid (Below (w.heap.size + 1) w0 w5) := HB2.out.trans (hB5.mono (by omega))
       have HL5 : Hid ((L.take i ++ [s] ++ L.drop i).length ≤ k + 1) := by have := HLk.out; show _ ≤ _; rw [hll]; omega
       have HS5 : Hid (namesTo l (k + 1) = L.take i ++ [s] ++ L.drop i) := HBb.out
       clear hr1' hr2 hr3 hgr2 hgr3 hB3 hB4 hB5 hbA hOne hrA hSr
       go_upto_region 11 with (at_builtin; refine wpListApp rfl _ _ _ rfl _ _ rfl rfl hrun1 ?_)
       go_upto_region 12 with (at_builtin; refine wpListApp rfl _ _ _ rfl _ _ rfl rfl hrun2 ?_)
       go_upto_region 4 with (at_builtin; refine wpListApp rfl _ _ _ rfl _ _ rfl rfl hrun3 ?_)
       go_wp2
       go_roundw
       case rel => exact ⟨k + 1, L.take i ++ [s] ++ L.drop i, g5, c5, by omega, by go_num, by first | rw [hll] | (rw [hll]; rfl), HL5, HS5, by rw [hll]; exact HR5, HB5⟩
       case measure => simp [intOf]; omega
      ·have hcc : ¬ (c : Int) = (i : Int) := by omega
       obtain ⟨v1, w3, hrun1, hr1, hgr1⟩ := appStrs _ wc.heap.size _ 0 [] hr0 (wc.heap.size) (some ⟨g, 0, none⟩) i c (L.take i) hTk (fun h => by cases h) (by omega) hb0.size
       have hr1' : w3.ownsRow wc.heap.size 9 1 v1 i ((L.take i).map Value.string) := by simpa using hr1
       have hB3 : Below wc.heap.size wc w3 := hb0.grown hgr1 hb0.size (fun j hj => (hr0.lt j hj).1)
       clear hr1 hgr1 hr0
       have hbA : Below wc.heap.size w3 (w3.alloc (.cells #[.string s] 9)) := (Below.refl _ _).alloc hB3.size _
       have hOne : StrsI (w3.alloc (.cells #[.string s] 9)) (w3.heap.size + 1) (some ⟨w3.heap.size, 0, none⟩) 1 [s] := one_strI w3 s
       have hrA := hr1'.alloc (.cells #[.string s] 9)
       obtain ⟨v2, w4, hrun2, hr2, hgr2⟩ := appStrs _ wc.heap.size v1 i (L.take i) hrA (w3.heap.size + 1) (some ⟨w3.heap.size, 0, none⟩) 1 1 [s] hOne (fun h => by cases h) (by omega) (Nat.le_trans hB3.size hbA.size)
       have hB4 : Below wc.heap.size wc w4 := hB3.trans (hbA.grown hgr2 (Nat.le_trans hB3.size hbA.size) (fun j hj => (hrA.lt j hj).1))
       have hSr : StrsI w4 wc.heap.size (some ⟨g, i, none⟩) (L.length - i) (L.drop i) := ((HS2.out.below hB4 (Nat.le_refl _)).drop hi)
       obtain ⟨v3, w5, hrun3, hr3, hgr3⟩ := appStrs w4 wc.heap.size v2 (i + 1) _ hr2 wc.heap.size (some ⟨g, i, none⟩) (L.length - i) (c - i) (L.drop i) hSr (fun h => by cases h) (by omega) hB4.size
       have hB5 : Below wc.heap.size wc w5 := hB4.grown hgr3 hB4.size (fun j hj => (hr2.lt j hj).1)
       obtain ⟨g5, c5, rfl⟩ : ∃ g5 c5, v3 = .slice (some ⟨g5, 0, none⟩) (i + 1 + (L.length - i)) c5 := by
        rcases hr3.2 with ⟨_, e2⟩ | ⟨g5, c5, _, e2, _⟩
        ·omega
        ·exact ⟨g5, c5, e2⟩
       have hll : (L.take i ++ [s] ++ L.drop i).length = i + 1 + (L.length - i) := by simp; omega
       have HR5 : Hid (w5.ownsRow (w.heap.size + 1) 9 1 (.slice (some ⟨g5, 0, none⟩) (i + 1 + (L.length - i)) c5) (i + 1 + (L.length - i)) ((L.take i ++ [s] ++ L.drop i).map Value.string)) := own_wide hr3 (by omega)
       have HB5 : Hid (Below (w.heap.size + 1) w0 w5) := HB2.out.trans (hB5.mono (by omega))
       have HL5 : Hid ((L.take i ++ [s] ++ L.drop i).length ≤ k + 1) := by have := HLk.out; show _ ≤ _; rw [hll]; omega
       have HS5 : Hid (namesTo l (k + 1) = L.take i ++ [s] ++ L.drop i) := HBb.out
       clear hr1' hr2 hr3 hgr2 hgr3 hB3 hB4 hB5 hbA hOne hrA hSr
       go_upto_region 11 with (at_builtin; refine wpListApp rfl _ _ _ rfl _ _ rfl rfl hrun1 ?_)
       go_upto_region 12 with (at_builtin; refine wpListApp rfl _ _ _ rfl _ _ rfl rfl hrun2 ?_)
       go_upto_region 4 with (at_builtin; refine wpListApp rfl _ _ _ rfl _ _ rfl rfl hrun3 ?_)
       go_wp2
       go_roundw
       case rel => exact ⟨k + 1, L.take i ++ [s] ++ L.drop i, g5, c5, by omega, by go_num, by first | rw [hll] | (rw [hll]; rfl), HL5, HS5, by rw [hll]; exact HR5, HB5⟩
       case measure => simp [intOf]; omega
     ·go_upto_region 4 with fail
      go_wp2
      go_roundw
      case rel => exact ⟨k + 1, L, g, c, by omega, by go_num, rfl, Nat.le_succ_of_le HLk.out, HBb, HR2, HB2⟩
      case measure => simp [intOf]; omega
  ·obtain rfl : k = l.length := by omega
   have HStr := Lib.hid ((own_at HR.out).more (Nat.le_succ _) (Nat.le_refl _))
   have HZ := Lib.hid (HB.out.trans (HBr.out.mono (by omega)))
   go_wp2
   go_ret
   exact ⟨g, c, by rw [HLt.out]; rfl, by rw [HLt.out]; exact HStr.out, HZ.out⟩
set_option linter.unusedVariables false

def ItemsPost (L : List ByteArray) (w : World) (e : Ending) (w' : World) : Prop := ∃ a c, e = .returned (.slice a L.length c) ∧ OwnStrs w' w.heap.size w'.heap.size a L.length L ∧ Below w.heap.size w w'
/-- What a call answers that hands back lines to be read. -/
def LnsRead (L : List LnV) (w : World) (e : Ending) (w' : World) : Prop := ∃ a c, e = .returned (.slice a L.length c) ∧ OwnLns w' w.heap.size w'.heap.size a L.length L ∧ Below w.heap.size w w'
theorem row_belowS {B : Nat} {e : TypeId} {k : Nat} {v : Value} {n : Nat} {xs : List Value} {w w' : World} (h : w.ownsRow B e k v n xs) (hb : Below w.heap.size w w') : w'.ownsRow B e k v n xs :=
 h.kept (row := none) ⟨hb.os, hb.tape, hb.output, hb.size, fun j hj _ => hb.block j hj⟩ (by cases hv : v.ownBlock <;> simp)
theorem OwnStrs.grown {w w' : World} {lo hi base m : Nat} {a : Option Addr} {n : Nat} {l : List ByteArray} {v : Value} {xs : List Value} (h : OwnStrs w lo hi a n l) (hr : w.ownsRow base 40 3 v m xs) (hg : w.grownBy w' v.ownBlock) : OwnStrs w' lo hi a n l :=
 ⟨h.1, fun hn => by
  obtain ⟨g, off, cs, e, h1, h2, hb, r⟩ := h.2 hn
  refine ⟨g, off, cs, e, h1, h2, (hg.block g (Array.getElem?_eq_some_iff.1 hb).1 (fun e' => ?_)).trans hb, r⟩
  rcases hr.2 with ⟨e2, _⟩ | ⟨g', c, cur, e2, _, hg', _⟩
  ·rw [e2] at e'
   cases e'
  ·rw [e2] at e'
   have : g = g' := by simpa [Value.ownBlock] using e'
   subst this
   rw [hb] at hg'
   injection hg' with hg'
   injection hg' with _ ht _
   exact absurd ht (by decide)⟩
theorem grown_size {z3 : World} {row : Option Nat} (z2 : World) (o : Obj) (h : (z2.alloc o).grownBy z3 row) : z2.heap.size ≤ z3.heap.size := Nat.le_trans (by show _ ≤ (z2.heap.push _).size; simp) h.size
theorem itemsN_len {xs : List Int} {l : List OpV} : (itemsN xs l).length ≤ 160 := by
 unfold itemsN
 split
 ·rename_i h
  exact Nat.le_trans (namesTo_len l _) (cart_length h)
 ·simp
theorem itemsN_mem {xs : List Int} {l : List OpV} {x : ByteArray} (h : x ∈ itemsN xs l) : cartB xs l = true ∧ ∃ i, i < l.length ∧ (l.getD i OpV.zero).item = x := by
 unfold itemsN at h
 split at h
 ·rename_i hc
  obtain ⟨_, i, hi, e⟩ := (namesTo_mem l x _).1 h
  exact ⟨hc, i, hi, e⟩
 ·cases h
set_option maxHeartbeats 10000000 in
theorem specItems (w : World) (B : Nat) (av ao : Option Addr) (nv cv no co : Nat) (xs : List Int) (l : List OpV) (hx : Ints w B av nv xs) (h : Ops w B ao no l) (hB : B ≤ w.heap.size) (hv : nv ≤ 1048576) (hn : no ≤ 1048576) (hm : ∀ i, i < no → (atOp l i).item.size ≤ 1048576) : Calls Tryz.prog 35 #[.agg #[.slice av nv cv, .slice ao no co]] w (ItemsPost (itemsN xs l) w) := by
 have hb0 : Below w.heap.size w (w.alloc (.cells #[.slice av nv cv, .slice ao no co] 49)) := (Below.refl _ w).alloc (Nat.le_refl _) _
 have HV := Lib.hid (hx.below hb0 hB)
 have HO := Lib.hid (h.below hb0 hB)
 have HB := Lib.hid hb0
 have HX := Lib.hid (boxAt (Below.refl _ (w.alloc (.cells #[.slice av nv cv, .slice ao no co] 49))))
 have hsz : w.heap.size < (w.alloc (.cells #[.slice av nv cv, .slice ao no co] 49)).heap.size := by show _ < (w.heap.push _).size; simp
 clear hx h hb0
 obtain ⟨cb, hcb⟩ : ∃ b, cartB xs l = b := ⟨_, rfl⟩
 have HC := Lib.hid hcb
 clear hcb
 obtain ⟨c0, c1⟩ := pair_cells HX.out
 go_enter Tryz.func35, Tryz.ntmps35
 go_wp2_with fail
 generalize w.alloc (.cells #[.slice av nv cv, .slice ao no co] 49) = w0 at HV HO HB HX hsz c0 c1 ⊢
 refine (specCartOk w0 B av ao nv cv no co xs l HV.out HO.out (by omega) hv hn hm).mono ?_
 rintro e w1 ⟨rfl, hb⟩
 rw [HC.out]
 have HX1 := Lib.hid ((hb.block _ (Array.getElem?_eq_some_iff.1 HX.out).1).trans HX.out)
 have HO1 := Lib.hid (HO.out.below hb (by omega))
 have HB1 := Lib.hid (HB.out.trans (hb.mono HB.out.size))
 have hs1 := hb.size
 clear hb c0 c1 HX HV HO HB
 obtain ⟨c0, c1⟩ := pair_cells HX1.out
 cases cb
 ·have HE : Hid (itemsN xs l = []) := by show _ = _; unfold itemsN; rw [HC.out]; rfl
  have HBn := Lib.hid (HB1.out.alloc HB1.out.size (.cells #[] 9))
  go_wp2
  go_ret
  exact ⟨_, _, by rw [HE.out]; rfl, by rw [HE.out]; exact ⟨rfl, fun hi => absurd hi (by show ¬ 0 < 0; omega)⟩, HBn.out⟩
 have HE : Hid (itemsN xs l = namesTo l l.length) := by show _ = _; unfold itemsN; rw [HC.out]; rfl
 go_wp2_with fail
 refine (l5ItemsX w1 B av ao nv cv no co xs l HO1.out (by omega) hn HC.out).mono ?_
 rintro e w2 ⟨g, c, rfl, hs, hb⟩
 have HB2 := Lib.hid (HB1.out.trans (hb.mono HB1.out.size))
 have HS2 := Lib.hid hs
 clear hs hb c0 c1
 go_wp2
 go_ret
 exact ⟨_, c, by rw [HE.out]; rfl, by rw [HE.out]; exact HS2.out.more (by omega) (Nat.le_refl _), HB2.out⟩
theorem linesN_take (xs : List Int) (l : List OpV) {k : Nat} (hk : k < (itemsN xs l).length) : (linesN xs l).take (k + 1) = (linesN xs l).take k ++ [lineV l ((itemsN xs l).getD k ⟨#[]⟩)] := by
 unfold linesN
 rw [← List.map_take, ← List.map_take, List.take_succ_eq_append_getElem hk, List.map_append, List.getD_eq_getElem?_getD, List.getElem?_eq_getElem hk]
 rfl
set_option maxHeartbeats 40000000 in
theorem specLines (w : World) (B : Nat) (av ao : Option Addr) (nv cv no co : Nat) (xs : List Int) (l : List OpV) (hx : Ints w B av nv xs) (h : Ops w B ao no l) (hB : B ≤ w.heap.size) (hv : nv ≤ 1048576) (hn : no ≤ 1048576) (hm : ∀ i, i < no → (atOp l i).item.size ≤ 1048576) : Calls Tryz.prog 17 #[.agg #[.slice av nv cv, .slice ao no co]] w (LnsRead (linesN xs l) w) := by
 have hb0 : Below w.heap.size w (w.alloc (.cells #[.slice av nv cv, .slice ao no co] 49)) := (Below.refl _ w).alloc (Nat.le_refl _) _
 have HV := Lib.hid (hx.below hb0 hB)
 have HO := Lib.hid (h.below hb0 hB)
 have HB := Lib.hid hb0
 have HX := Lib.hid (boxAt (Below.refl _ (w.alloc (.cells #[.slice av nv cv, .slice ao no co] 49))))
 have hsz : w.heap.size < (w.alloc (.cells #[.slice av nv cv, .slice ao no co] 49)).heap.size := by show _ < (w.heap.push _).size; simp
 clear hx h hb0
 have hz0 : Hid ((w.alloc (.cells #[.slice av nv cv, .slice ao no co] 49)).heap.size = w.heap.size + 1) := by show (w.heap.push _).size = _; simp
 go_enter Tryz.func17, Tryz.ntmps17
 go_upto_region 2 with fail
 generalize w.alloc (.cells #[.slice av nv cv, .slice ao no co] 49) = w0 at HV HO HB HX hsz hz0 ⊢
 have hr0 : (w0.alloc (.cells #[] 40)).ownsRow w0.heap.size 40 3 (.slice (some ⟨w0.heap.size, 0, none⟩) 0 0) 0 (lnCells []) := World.ownsRow_made w0 #[] 0 (Nat.le_refl _) (by unfold maxLen; omega) rfl
 rw [hz0.out] at hr0
 have hb1 : Below w0.heap.size w0 (w0.alloc (.cells #[] 40)) := bl
 generalize w0.alloc (.cells #[] 40) = w1 at hr0 hb1 ⊢
 have HX1 := Lib.hid ((hb1.block _ (Array.getElem?_eq_some_iff.1 HX.out).1).trans HX.out)
 have HV1 := Lib.hid (HV.out.below hb1 (by omega))
 have HO1 := Lib.hid (HO.out.below hb1 (by omega))
 have HB1 := Lib.hid (HB.out.trans (hb1.mono HB.out.size))
 have HR1 := Lib.hid hr0
 have hs1 := hb1.size
 clear hb1 hr0 HX HV HO HB
 obtain ⟨c0, c1⟩ := pair_cells HX1.out
 go_wp2_with fail
 refine (specItems w1 B av ao nv cv no co xs l HV1.out HO1.out (by omega) hv hn hm).mono ?_
 rintro e w2 ⟨ka, kc, rfl, hks, hb⟩
 obtain ⟨ks, hkse⟩ : ∃ ks, itemsN xs l = ks := ⟨_, rfl⟩
 have hkl : ks.length ≤ 160 := by rw [← hkse]; exact itemsN_len
 rw [hkse] at hks ⊢
 have HKe := Lib.hid hkse
 have HS2 := Lib.hid hks
 have HX2 := Lib.hid ((hb.block _ (Array.getElem?_eq_some_iff.1 HX1.out).1).trans HX1.out)
 have HO2 := Lib.hid (HO1.out.below hb (by omega))
 have HB2 := Lib.hid (HB1.out.trans (hb.mono HB1.out.size))
 have HR2 := Lib.hid (row_belowS HR1.out hb)
 have hs2 := hb.size
 clear hb hks hkse c0 c1 HX1 HV1 HO1 HB1 HR1
 have hw2 : w.heap.size < w2.heap.size := by omega
 have HL : Hid ((linesN xs l).length = ks.length) := by show _ = _; unfold linesN; rw [List.length_map, HKe.out]
 have HTk : Hid (∀ k, k < ks.length → (linesN xs l).take (k + 1) = (linesN xs l).take k ++ [lineV l (ks.getD k ⟨#[]⟩)]) := fun k hk => by
  have := linesN_take xs l (k := k) (by rw [HKe.out]; exact hk)
  rw [HKe.out] at this
  exact this
 have HCb : Hid (ks = [] ∨ cartB xs l = true) := by
  show _ ∨ _
  rw [← HKe.out]
  unfold itemsN
  cases cartB xs l
  ·exact .inl rfl
  ·exact .inr rfl
 generalize hLe : linesN xs l = Ls at HL HTk
 have HLe := Lib.hid hLe
 clear hLe
 have hw0 := hsz
 go_wp2
 go_loopw [3, 5] (fun v i wr => ∃ (k : Nat) (vv : Value), k ≤ ks.length ∧ i = .int .i64 (k : Int) ∧ vv = v ∧ Hid (wr.ownsRow (w.heap.size + 1) 40 3 vv k (lnCells (Ls.take k))) ∧ Hid (Below (w.heap.size + 1) w2 wr) ∧ Hid (OwnStrs wr w.heap.size wr.heap.size ka ks.length ks)) (fun _ i _ => ks.length - (intOf i).toNat)
 case atStart => exact ⟨0, _, Nat.zero_le _, rfl, rfl, HR2.out, Below.refl _ _, HS2.out.more (by omega) (Nat.le_refl _)⟩
 case round =>
  obtain ⟨k, v, hk, rfl, rfl, HR, HBr, HSr⟩ := hrel
  clear HR2 HS2
  have HBx := Lib.hid ((HBr.out.block w.heap.size (by omega)).trans HX2.out)
  have hwr := HBr.out.size
  obtain ⟨c0, c1⟩ := pair_cells HBx.out
  by_cases hlt : k < ks.length
  rotate_left
  ·obtain rfl : k = ks.length := by omega
   have e : Ls.take ks.length = Ls := List.take_of_length_le (by rw [HL.out]; exact Nat.le_refl _)
   have hr := HR.out
   rw [e] at hr
   obtain ⟨a, c, hv4, hown⟩ := ownLns_of_cells hr (Nat.le_refl _)
   subst hv4
   have HOw := Lib.hid (hown.more (Nat.le_succ _) (Nat.le_refl _))
   have HBf := Lib.hid (HB2.out.trans (HBr.out.mono (by omega)))
   clear hown hr HR
   go_wp2
   go_ret
   exact ⟨a, c, by rw [HLe.out, HL.out]; rfl, by rw [HLe.out, HL.out]; exact HOw.out, HBf.out⟩
  have HCt : Hid (cartB xs l = true) := HCb.out.elim (fun h => absurd hlt (by rw [h]; simp)) id
  obtain ⟨b, off, hka, hb, hc⟩ := HSr.out.strs.2 k hlt
  have hki : (k : Int) < (ks.length : Int) := by omega
  have HStep := Lib.hid (HTk.out k hlt)
  obtain ⟨x, hx⟩ : ∃ x, ks.getD k ⟨#[]⟩ = x := ⟨_, rfl⟩
  rw [hx] at hc
  have HXe := Lib.hid hx
  clear hx
  subst hka
  obtain ⟨z0, hz0e⟩ : ∃ z0, wr.drew = z0 := ⟨_, rfl⟩
  have hS0 : z0.cell? ⟨b, off + k, none⟩ = some (.string x) ∧ z0.cell? ⟨w.heap.size, 0, none⟩ = some (.slice av nv cv) ∧ z0.cell? ⟨w.heap.size, 1, none⟩ = some (.slice ao no co) := by rw [← hz0e]; exact ⟨hc, c0, c1⟩
  have hbz0 : Below wr.heap.size wr z0 := by rw [← hz0e]; exact ⟨rfl, rfl, rfl, Nat.le_refl _, fun _ _ => rfl⟩
  have HO3 := Lib.hid ((HO2.out.below HBr.out (by omega)).below hbz0 (by omega))
  have hz0s := hbz0.size
  clear c0 c1 hc
  go_upto_region 6 with fail
  refine wp_region_held_drew (S := fun w' => w'.cell? ⟨b, off + k, none⟩ = some (.string x) ∧ w'.cell? ⟨w.heap.size, 0, none⟩ = some (.slice av nv cv) ∧ w'.cell? ⟨w.heap.size, 1, none⟩ = some (.slice ao no co)) (by kernel_rfl) (by rw [hz0e]; exact hS0) (fun hHeld => ?_)
  rw [hz0e]
  clear hHeld
  refine tj 0 ?_
  refine tj 1 ?_
  refine tj 2 ?_
  refine tj 3 ?_
  refine tj 4 ?_
  refine tj 5 ?_
  refine tj 6 ?_
  refine tj 7 ?_
  refine tj 8 ?_
  refine tj 9 ?_
  refine tj 11 ?_
  refine tj 12 ?_
  refine tj 13 ?_
  refine tj 14 ?_
  refine tj 15 ?_
  refine rk 10 rfl (fun K hK => ?_)
  go_simp
  go_at_call 36
  refine (l5Qty z0 B av ao nv cv no co xs l x HO3.out (by omega) hn HCt.out).mono ?_
  rintro e z1 ⟨rfl, hb1⟩
  have hS1 : z1.cell? ⟨b, off + k, none⟩ = some (.string x) ∧ z1.cell? ⟨w.heap.size, 0, none⟩ = some (.slice av nv cv) ∧ z1.cell? ⟨w.heap.size, 1, none⟩ = some (.slice ao no co) := ⟨(hb1.cell (block_lt_of_cell hS0.1)).trans hS0.1, (hb1.cell (block_lt_of_cell hS0.2.1)).trans hS0.2.1, (hb1.cell (block_lt_of_cell hS0.2.2)).trans hS0.2.2⟩
  have HO4 := Lib.hid (HO3.out.below hb1 (by omega))
  have hz1s := hb1.size
  refine hK.out _ _ hS1 (fun hHeld2 => ?_)
  clear hK K
  (try simp only [Act.put, u1, u2, u3])
  refine rk 16 rfl (fun K hK => ?_)
  go_simp
  go_at_call 37
  refine (l5Saved z1 B av ao nv cv no co xs l x HO4.out (by omega) hn HCt.out).mono ?_
  rintro e z2 ⟨rfl, hb2⟩
  have hS2 : z2.cell? ⟨b, off + k, none⟩ = some (.string x) ∧ z2.cell? ⟨w.heap.size, 0, none⟩ = some (.slice av nv cv) ∧ z2.cell? ⟨w.heap.size, 1, none⟩ = some (.slice ao no co) := ⟨(hb2.cell (block_lt_of_cell hS1.1)).trans hS1.1, (hb2.cell (block_lt_of_cell hS1.2.1)).trans hS1.2.1, (hb2.cell (block_lt_of_cell hS1.2.2)).trans hS1.2.2⟩
  refine hK.out _ _ hS2 (fun hHeld3 => ?_)
  clear hK K
  (try simp only [Act.put, u1, u2, u3])
  refine tj 17 ?_
  have hbz2 : Below wr.heap.size wr z2 := (hbz0.trans (hb1.mono hbz0.size)).trans (hb2.mono (Nat.le_trans hbz0.size hb1.size))
  have hr2 := row_belowS HR.out hbz2
  have hz2s := hbz2.size
  have hz2m : wr.heap.size ≤ z2.heap.size := hz2s
  obtain ⟨v6, z3, hrun, hr3, hb3, hg3⟩ := appLn z2 (w.heap.size + 1) v k (Ls.take k) hr2 (lineV l x) (by omega) (by omega)
  have HR3 : Hid (z3.ownsRow (w.heap.size + 1) 40 3 v6 (k + 1) (lnCells (Ls.take (k + 1)))) := by
   show World.ownsRow _ _ _ _ _ _ _
   rw [HStep.out, HXe.out]
   exact hr3
  have HB3 : Hid (Below (w.heap.size + 1) w2 z3) := (HBr.out.trans (hbz2.mono (by omega))).trans hb3
  have hbA : Below z2.heap.size z2 (z2.alloc (.cells #[.string x, .int .i64 (bestTo cntB x l l.length).qty, .bool (decide ((bestTo plcB x l l.length).kind = 4))] 40)) := bl
  have hSA : (z2.alloc (.cells #[.string x, .int .i64 (bestTo cntB x l l.length).qty, .bool (decide ((bestTo plcB x l l.length).kind = 4))] 40)).cell? ⟨b, off + k, none⟩ = some (.string x) ∧ (z2.alloc (.cells #[.string x, .int .i64 (bestTo cntB x l l.length).qty, .bool (decide ((bestTo plcB x l l.length).kind = 4))] 40)).cell? ⟨w.heap.size, 0, none⟩ = some (.slice av nv cv) ∧ (z2.alloc (.cells #[.string x, .int .i64 (bestTo cntB x l l.length).qty, .bool (decide ((bestTo plcB x l l.length).kind = 4))] 40)).cell? ⟨w.heap.size, 1, none⟩ = some (.slice ao no co) := ⟨(hbA.cell (block_lt_of_cell hS2.1)).trans hS2.1, (hbA.cell (block_lt_of_cell hS2.2.1)).trans hS2.2.1, (hbA.cell (block_lt_of_cell hS2.2.2)).trans hS2.2.2⟩
  have ho3 := ((HSr.out.below hbz2 (Nat.le_refl _)).below hbA (by omega)).grown (hr2.alloc _) hg3
  have HS3 : Hid (OwnStrs z3 w.heap.size z3.heap.size (some ⟨b, off, none⟩) ks.length ks) := ho3.more (Nat.le_refl _) (Nat.le_trans hz2m (grown_size z2 _ hg3))
  have hS3 : z3.cell? ⟨b, off + k, none⟩ = some (.string x) ∧ z3.cell? ⟨w.heap.size, 0, none⟩ = some (.slice av nv cv) ∧ z3.cell? ⟨w.heap.size, 1, none⟩ = some (.slice ao no co) := ⟨by obtain ⟨b', off', e', _, hc'⟩ := ho3.strs.2 k hlt; cases e'; rw [hc', HXe.out], (hb3.cell (by show w.heap.size < _; omega)).trans hS2.2.1, (hb3.cell (by show w.heap.size < _; omega)).trans hS2.2.2⟩
  clear ho3 hg3
  refine rk 18 rfl (fun K hK => ?_)
  go_simp
  refine hK.out _ _ hSA (fun hHeld4 => ?_)
  clear hK K
  (try simp only [Act.put, u1, u2, u3])
  refine rk 19 rfl (fun K hK => ?_)
  rw [if_pos (by rfl)]
  refine opwpApp _ _ _ rfl _ _ rfl rfl hrun ?_
  refine hK.out _ _ hS3 (fun hHeld5 => ?_)
  clear hK K
  (try simp only [Act.put, u1, u2, u3])
  refine tj 20 ?_
  refine wpAnyH_done (by kernel_rfl) ?_ _
  clear hrun hr3 hr2 hb3 hbz2 hbA hSA hS0 hS1 hS2 hS3
  go_wp2
  go_roundw
  case rel => exact ⟨k + 1, _, by omega, by go_num, rfl, HR3, HB3, HS3⟩
  case measure => simp [intOf]; omega
end Go.Proofs.YtgagchlcafdiaaaGreat
