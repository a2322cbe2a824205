/- Walks and mathematics that several claims share, part 31. -/
import Derived.Test.YtejhmakfbmhhhaaGreatGx28
import Derived.Test.YtejhmakfbmhhhaaGreatGx25
import Derived.ScopeJumps
import Derived.Deep.Cut
import Derived.Deep.RegionHeld3
import Derived.Test.YtejhmakfbmhhhaaGreatGxA
namespace Go.Proofs.YtejhmakfbmhhhaaGreat
set_option maxRecDepth 100000
open Go.RowKit

theorem scope_jumps {P : Program} {a : Act} {w : World} {Q : Exit → Act → World → Prop} {c rest : Code} (l : Nat) (J : Act → World → Prop) (mu : Act → World → Nat) (hf : findLabel c l = some (.seq .skip rest))
  (pass : ∀ a w, J a w → rest.wp P (Exit.jump l (fun a' w' => J a' w' ∧ mu a' w' < mu a w) Q) a w)
  (first : (∀ a w, J a w → rest.wp P (Exit.jump l J Q) a w) → c.wp P (Exit.jump l J Q) a w) : (Code.scope c).wp P Q a w :=
 wp_scope_jumps l J mu hf (first fun a w h => wp_mono (pass a w h) (fun e a' w' hq => by
  cases e with
  | goto l' => exact ⟨hq.1, hq.2.1⟩
  | normal => exact hq
  | exit i => exact hq
  | ret => exact hq
  | panic c => exact hq
  | outgrown => exact hq)) fun a w h => wp_seq (wp_skip (pass a w h))
theorem OwnOps.tail {w : World} {lo hi : Nat} {a : Option Addr} {n : Nat} {l : List OpV} (h : OwnOps w lo hi a n l) (hn : 0 < n) : OwnOps w lo hi (Option.map (fun x => x.add 8) a) (n - 1) (l.drop 1) := by
 have hl := h.1
 refine ⟨by rw [List.length_drop]; omega, fun h1 => ?_⟩
 obtain ⟨g, off, cs, e, h2, h3, hg, hs, hc⟩ := h.2 hn
 refine ⟨g, off + 8, cs, by rw [e]; rfl, h2, h3, hg, by omega, fun i hi => ?_⟩
 have e1 : (l.drop 1).getD i OpV.zero = l.getD (i + 1) OpV.zero := by
  rw [List.getD_eq_getElem?_getD, List.getElem?_drop, List.getD_eq_getElem?_getD, Nat.add_comm 1 i]
 rw [e1]
 have := hc (i + 1) (by omega)
 have e2 : off + 8 + i * 8 = off + (i + 1) * 8 := by omega
 rw [e2]
 exact this
theorem Merge.congr {T : List OpV} {R R' : Nat → List OpV} (h : Merge T R) (hR : ∀ e, e < 4 → R' e = R e) : Merge T R' :=
 ⟨h.srt, fun y => (h.mem y).trans ⟨fun ⟨e, he, hy⟩ => ⟨e, he, by rw [hR e he]; exact hy⟩, fun ⟨e, he, hy⟩ => ⟨e, he, by rw [← hR e he]; exact hy⟩⟩, fun e he => by rw [hR e he]; exact h.run e he, fun e he y hy => h.dev e he y (by rw [← hR e he]; exact hy), fun e he y hy => h.ok e he y (by rw [← hR e he]; exact hy)⟩
theorem merge_named (xs : List Int) (l : List OpV) : Merge (histL xs l) (fun e => namedL xs l (e : Int)) := by
 rcases h : cartB xs l with _ | _
 ·rw [hist_no h]
  exact ⟨List.Pairwise.nil, fun y => ⟨fun hy => (by cases hy), fun ⟨e, _, hy⟩ => (by rw [named_no h] at hy; cases hy)⟩, fun e _ => (by rw [named_no h]; exact List.Pairwise.nil), fun e _ y hy => (by rw [named_no h] at hy; cases hy), fun e _ y hy => (by rw [named_no h] at hy; cases hy)⟩
 ·rw [hist_yes h]
  exact (Merge.start h).congr fun e he => by rw [named_yes h, named_seg h he]
def lenOf : Value → Nat
 | .slice _ n _ => n
 | _ => 0
theorem arr_set (A : Nat → Option Addr) (N C : Nat → Nat) {k : Nat} (hk : k < 4) (a : Option Addr) (n c : Nat) :
  (#[.slice (A 0) (N 0) (C 0), .slice (A 1) (N 1) (C 1), .slice (A 2) (N 2) (C 2), .slice (A 3) (N 3) (C 3)] : Array Value).setIfInBounds k (.slice a n c) = #[.slice (if 0 = k then a else A 0) (if 0 = k then n else N 0) (if 0 = k then c else C 0), .slice (if 1 = k then a else A 1) (if 1 = k then n else N 1) (if 1 = k then c else C 1), .slice (if 2 = k then a else A 2) (if 2 = k then n else N 2) (if 2 = k then c else C 2), .slice (if 3 = k then a else A 3) (if 3 = k then n else N 3) (if 3 = k then c else C 3)] := by
 obtain rfl | rfl | rfl | rfl : k = 0 ∨ k = 1 ∨ k = 2 ∨ k = 3 := by omega
 all_goals simp
theorem own_cap {w : World} {base : Nat} {a : Option Addr} {n c : Nat} {xs : List Value} (h : w.ownsRow base 39 8 (.slice a n c) n xs) : n ≤ c := by
 rcases h.2 with ⟨e, e2⟩ | ⟨g, c', cur, e, _, _, hnc, _⟩
 ·omega
 ·cases e; exact hnc
structure HistJ (b3 nB : Nat) (w0 : World) (L H T : List OpV) (A : Nat → Option Addr) (N C : Nat → Nat) (R : Nat → List OpV) (v : Value) (w' : World) : Prop where
 below : Below b3 w0 w'
 arr : w'.heap[b3]? = some (.cells #[.slice (A 0) (N 0) (C 0), .slice (A 1) (N 1) (C 1), .slice (A 2) (N 2) (C 2), .slice (A 3) (N 3) (C 3)] 79 (0, 0))
 own : ∀ e, e < 4 → OwnOps w' (b3 + 1) nB (A e) (N e) (R e)
 cap : ∀ e, e < 4 → N e ≤ C e
 lim : ∀ e, e < 4 → N e ≤ 1048576
 hist : w'.ownsRow nB 39 8 v H.length (opCells H)
 sum : H ++ T = L
 mrg : Merge T R
 hi1 : b3 + 1 ≤ nB
 hi2 : nB ≤ w'.heap.size
theorem HistJ.step {b3 nB : Nat} {w0 : World} {L H T : List OpV} {A : Nat → Option Addr} {N C : Nat → Nat} {R : Nat → List OpV} {v : Value} {w' : World} (h : HistJ b3 nB w0 L H T A N C R v w') {w1 : World} (hb : Below w'.heap.size w' w1) : HistJ b3 nB w0 L H T A N C R v w1 :=
 ⟨h.below.trans (hb.mono (by have := h.hi1; have := h.hi2; omega)), (hb.block _ (Array.getElem?_eq_some_iff.1 h.arr).1).trans h.arr, fun e he => (h.own e he).below hb h.hi2, h.cap, h.lim, own_row_kept h.hist hb, h.sum, h.mrg, h.hi1, Nat.le_trans h.hi2 hb.size⟩
theorem HistJ.put {b3 nB : Nat} {w0 : World} {L H T : List OpV} {A : Nat → Option Addr} {N C : Nat → Nat} {R : Nat → List OpV} {v v' : Value} {w' w1 : World} (h : HistJ b3 nB w0 L H T A N C R v w') {k : Nat} (hk : k < 4) {x : OpV} {rest : List OpV} (hR : R k = x :: rest) (hp : precB R x = true)
  (hb : Below nB w' w1) (hh : w1.ownsRow nB 39 8 v' (H.length + 1) (opCells H ++ opRow x)) :
  ∃ T', HistJ b3 nB w0 L (H ++ [x]) T' (fun e => if e = k then (if C k = 1 then A k else Option.map (fun y => y.add 8) (A k)) else A e) (fun e => if e = k then N k - 1 else N e) (fun e => if e = k then C k - 1 else C e) (fun e => if e = k then rest else R e) v' (w1.setCell ⟨b3, k, none⟩ (.slice (if C k = 1 then A k else Option.map (fun y => y.add 8) (A k)) (N k - 1) (C k - 1))) := by
 obtain ⟨T', hT, hm⟩ := h.mrg.step hk hR hp
 have hh1 := h.hi1
 have hh2 := h.hi2
 have hNk : 0 < N k := by have := (h.own k hk).1; rw [hR] at this; simp at this; omega
 have ha1 : w1.heap[b3]? = some (.cells #[.slice (A 0) (N 0) (C 0), .slice (A 1) (N 1) (C 1), .slice (A 2) (N 2) (C 2), .slice (A 3) (N 3) (C 3)] 79 (0, 0)) := (hb.block _ (by omega)).trans h.arr
 have hcap := h.cap k hk
 refine ⟨T', ⟨(h.below.trans (hb.mono (by omega))).setCell (Nat.le_refl _) _, ?_, fun e he => ?_, fun e he => ?_, fun e he => ?_, ?_, ?_, hm, hh1, ?_⟩⟩
 ·rw [heap_setCell_same _ _ _ _ _ _ ha1, arr_set A N C hk]
 ·have hkeep : ∀ {a : Option Addr} {n : Nat} {l : List OpV}, OwnOps w' (b3 + 1) nB a n l → OwnOps (w1.setCell ⟨b3, k, none⟩ (.slice (if C k = 1 then A k else Option.map (fun y => y.add 8) (A k)) (N k - 1) (C k - 1))) (b3 + 1) nB a n l := fun ho =>
   (ho.below hb (Nat.le_refl _)).kept fun q h1 h2 => heap_setCell_other _ _ _ _ (by show q ≠ b3; omega)
  by_cases hek : e = k
  ·subst hek
   simp only [if_true]
   have h1 := (h.own e he).tail hNk
   have e1 : (R e).drop 1 = rest := by rw [hR]; rfl
   rw [e1] at h1
   by_cases hc1 : C e = 1
   ·have hn1 : N e - 1 = 0 := by omega
    rw [hn1] at h1 ⊢
    have : rest = [] := List.eq_nil_of_length_eq_zero h1.1
    rw [this]
    exact own_none _ _ _ _
   ·rw [if_neg hc1] at hkeep ⊢
    exact hkeep h1
  ·simp only [if_neg hek]
   exact hkeep (h.own e he)
 ·by_cases hek : e = k
  ·simp only [if_pos hek]; omega
  ·simp only [if_neg hek]; exact h.cap e he
 ·by_cases hek : e = k
  ·simp only [if_pos hek]; have := h.lim k hk; omega
  ·simp only [if_neg hek]; exact h.lim e he
 ·have h1 : w1.ownsRow nB 39 8 v' (H ++ [x]).length (opCells (H ++ [x])) := by rw [opCells_snoc, List.length_append]; exact hh
  refine h1.kept (row := some b3) ⟨rfl, rfl, rfl, by simp [World.setCell], fun j hj hne => heap_setCell_other _ _ _ _ (fun e => hne (by rw [e]))⟩ ?_
  rcases hg : v'.ownBlock with _ | g
  ·exact .inl rfl
  ·refine .inr fun e => ?_
   injection e with e
   have := (h1.lt g hg).1
   omega
 ·rw [← h.sum, hT]; simp
 ·rw [World.size_setCell]; exact Nat.le_trans hh2 hb.size
end Go.Proofs.YtejhmakfbmhhhaaGreat

namespace Go.Proofs.YtejhmakfbmhhhaaGreat
set_option maxRecDepth 100000
open Go.RowKit

set_option linter.unusedSimpArgs false in
set_option maxHeartbeats 40000000 in
theorem implHistoryC (w : World) (B : Nat) (av ao : Option Addr) (nv cv no co : Nat) (xs : List Int) (l : List OpV) (hx : Ints w B av nv xs) (h : Ops w B ao no l) (hB : B ≤ w.heap.size) (hv : nv ≤ 1048576) (hvc : nv ≤ cv) (hc : no ≤ co) (hc2 : Fits no co) (hnil : ao = none → co = 0) (hm : ∀ i, i < no → (atOp l i).item.size ≤ 1048576) :
  Calls Tryz.prog 34 #[.agg #[.slice av nv cv, .slice ao no co]] w (OpsPostC (histL xs l) w) := by
 have hn1048 : no ≤ 1048576 := hc2.1
 obtain ⟨i0, hi, hz0, hz1, hz2⟩ := info_parts Tryz.infoOp
 have hb0 : Below w.heap.size w (w.alloc (.cells #[.slice av nv cv, .slice ao no co] 27)) := (Below.refl _ w).alloc (Nat.le_refl _) _
 have HV := Lib.hid (hx.below hb0 hB)
 have HO := Lib.hid (h.below hb0 hB)
 have HB := Lib.hid hb0
 have HX := Lib.hid (boxAt (Below.refl _ (w.alloc (.cells #[.slice av nv cv, .slice ao no co] 27))))
 have HL := Lib.hid h.1
 have HM := Lib.hid hm
 have hsz : w.heap.size + 1 ≤ (w.alloc (.cells #[.slice av nv cv, .slice ao no co] 27)).heap.size := by show _ ≤ (w.heap.push _).size; simp
 have HIl : Hid ((histL xs l).length ≤ 1048576) := Nat.le_trans (hist_len xs l) (by rw [h.1]; omega)
 have HNl : Hid (∀ d : Int, (namedL xs l d).length ≤ 1048576) := fun d => Nat.le_trans (named_len xs l d) (by rw [h.1]; omega)
 clear hx h hb0 hm
 go_enter Tryz.func34, Tryz.ntmps34
 have hzv : ∀ w : World, (zeroValue 79).run Tryz.prog w = .ok (.agg #[.slice none 0 0, .slice none 0 0, .slice none 0 0, .slice none 0 0]) w := fun _ => by kernel_rfl
 have hnv : ∀ w : World, (newVar 79 (.agg #[.slice none 0 0, .slice none 0 0, .slice none 0 0, .slice none 0 0])).run Tryz.prog w = .ok ⟨w.heap.size, 0, none⟩ (w.alloc (.cells #[.slice none 0 0, .slice none 0 0, .slice none 0 0, .slice none 0 0] 79)) := fun _ => by kernel_rfl
 obtain ⟨w0, hw0⟩ : ∃ w0, w.alloc (.cells #[.slice av nv cv, .slice ao no co] 27) = w0 := ⟨_, rfl⟩
 rw [hw0] at HV HO HB HX hsz
 go_wp2
 refine scope_jumps 0 (fun a' w' => ∃ (H T : List OpV) (A : Nat → Option Addr) (N C : Nat → Nat) (R : Nat → List OpV) (va : Option Addr) (vc : Nat) (u4 u6 u7 u8 u9 u10 u11 u12 u13 u14 u15 u16 u17 u18 u19 u20 u21 u22 u23 u24 u25 u26 u27 u28 u29 u30 u31 u32 u33 u34 u35 u36 u37 u38 u39 u40 u41 u42 u43 : Value), a' = { tmps := #[.agg #[.slice av nv cv, .slice ao no co], .pointer (some ⟨w.heap.size, 0, none⟩), .slice none 0 0, .pointer (some ⟨w0.heap.size, 0, none⟩), u4, .slice va H.length vc, u6, u7, u8, u9, u10, u11, u12, u13, u14, u15, u16, u17, u18, u19, u20, u21, u22, u23, u24, u25, u26, u27, u28, u29, u30, u31, u32, u33, u34, u35, u36, u37, u38, u39, u40, u41, u42, u43], defers := [] } ∧ Hid (∃ nB, HistJ w0.heap.size nB w0 (histL xs l) H T A N C R (.slice va H.length vc) w')) (fun a' _ => (histL xs l).length - lenOf (a'.tmps.getD 5 undef)) rfl ?_ ?_
 rotate_left
 ·intro hpass
  have HPass := Lib.hid hpass
  clear hpass
  go_upto_region 1 with fail
  have HA0 : Hid ((w0.alloc (.cells #[.slice none 0 0, .slice none 0 0, .slice none 0 0, .slice none 0 0] 79)).heap[w0.heap.size]? = some (.cells #[.slice none 0 0, .slice none 0 0, .slice none 0 0, .slice none 0 0] 79 (0, 0))) := Lib.hid (heap_alloc_new _ _)
  have HB1 : Hid (Below w0.heap.size w0 (w0.alloc (.cells #[.slice none 0 0, .slice none 0 0, .slice none 0 0, .slice none 0 0] 79))) := Lib.hid ((Below.refl _ w0).alloc (Nat.le_refl _) _)
  clear hw0
  go_wp2
  go_loopw [8] (fun i wr => ∃ (k : Nat) (A : Nat → Option Addr) (N C : Nat → Nat), k ≤ 4 ∧ i = .int .i64 (k : Int) ∧ Hid (wr.heap[w0.heap.size]? = some (.cells #[.slice (A 0) (N 0) (C 0), .slice (A 1) (N 1) (C 1), .slice (A 2) (N 2) (C 2), .slice (A 3) (N 3) (C 3)] 79 (0, 0))) ∧ Hid (∀ e, e < k → OwnOps wr (w0.heap.size + 1) wr.heap.size (A e) (N e) (namedL xs l (e : Int)) ∧ N e ≤ C e) ∧ Hid (Below w0.heap.size w0 wr)) (fun i _ => 4 - (intOf i).toNat)
  case atStart => exact ⟨0, fun _ => none, fun _ => 0, fun _ => 0, by omega, rfl, HA0, Lib.hid (fun e he => absurd he (by omega)), HB1⟩
  case round =>
   obtain ⟨k, A, N, C, hk, rfl, HA, HOw, HBr⟩ := hrel
   clear HA0 HB1
   have hsr := HBr.out.size
   have hA1 := (Array.getElem?_eq_some_iff.1 HA.out).1
   by_cases hlt : k < 4
   rotate_left
   ·obtain rfl : k = 4 := by omega
    have HJ : Hid (HistJ w0.heap.size wr.heap.size w0 (histL xs l) [] (histL xs l) A N C (fun e => namedL xs l (e : Int)) (.slice none 0 0) wr) := ⟨HBr.out, HA.out, fun e he => (HOw.out e he).1, fun e he => (HOw.out e he).2, fun e he => by rw [← (HOw.out e he).1.1]; exact HNl.out _, ⟨rfl, .inl ⟨rfl, rfl⟩⟩, rfl, merge_named xs l, by omega, Nat.le_refl _⟩
    clear HA HOw HBr HV HO HX HL HM HNl
    go_wp2
    refine wp_label ?_
    rename_i hK3
    exact hK3 _ _ (HPass.out _ _ ⟨[], histL xs l, A, N, C, _, none, 0, _, _, _, _, _, _, _, _, _, _, _, _, _, _, _, _, _, _, _, _, _, _, _, _, _, _, _, _, _, _, _, _, _, _, _, _, _, _, _, rfl, _, HJ.out⟩)
   obtain ⟨c0, c1⟩ := pair_cells ((HBr.out.block _ (by omega)).trans HX.out)
   have HVr := Lib.hid (HV.out.below HBr.out (by omega))
   have HOr := Lib.hid (HO.out.below HBr.out (by omega))
   have hr4 : ∀ j, j < 4 → wr.cell? ⟨w0.heap.size, j, none⟩ = some (.slice (A j) (N j) (C j)) := fun j hj => by
    rw [cell_of_row _ _ j _ _ _ HA.out]
    obtain rfl | rfl | rfl | rfl : j = 0 ∨ j = 1 ∨ j = 2 ∨ j = 3 := by omega
    all_goals rfl
   have HR4 := Lib.hid hr4
   clear hr4
   go_wp2_with fail
   refine (implNamedC wr B av ao nv cv no co xs l (k : Int) HVr.out HOr.out (by omega) hv hvc hc hc2 hnil HM.out).mono ?_
   rintro e w1 ⟨aa, c, rfl, hcc, hown, hb1⟩
   have hA2 := (hb1.block _ hA1).trans HA.out
   have rk : w1.cell? ⟨w0.heap.size, k, none⟩ = some (.slice (A k) (N k) (C k)) := (hb1.cell (block_lt_of_cell (HR4.out k hlt))).trans (HR4.out k hlt)
   have hfz : ∀ j, w1.frozen? ⟨w0.heap.size, j, none⟩ = false := fun j => by simp [World.frozen?, hA2]
   have HOw1 := Lib.hid (fun e (he : e < k) => ((HOw.out e he).1.below hb1 (Nat.le_refl _)))
   have HA2 := Lib.hid hA2
   have HCC := Lib.hid hcc
   have HOn := Lib.hid hown
   have HB3 := Lib.hid ((HBr.out.trans (hb1.mono (by omega))))
   have hs1 := hb1.size
   clear HV HO HX HVr HOr c0 c1 HM HL hA2 hcc hown hb1 HR4 HPass
   generalize hnl : (namedL xs l (k : Int)).length = nl at HCC HOn ⊢
   go_wp2
   go_roundw
   case measure => simp [intOf]; omega
   case rel =>
    refine ⟨k + 1, fun j => if j = k then aa else A j, fun j => if j = k then nl else N j, fun j => if j = k then c else C j, by omega, by go_num, Lib.hid ?_, Lib.hid ?_, Lib.hid ?_⟩
    ·rw [heap_setCell_same _ _ _ _ _ _ HA2.out, arr_set A N C hlt]
    ·intro j hj
     have hsz2 : (w1.setCell ⟨w0.heap.size, k, none⟩ (.slice aa nl c)).heap.size = w1.heap.size := World.size_setCell _ _ _
     have hkeep : ∀ {a : Option Addr} {n : Nat} {l : List OpV} {lo : Nat}, w0.heap.size < lo → OwnOps w1 lo w1.heap.size a n l → OwnOps (w1.setCell ⟨w0.heap.size, k, none⟩ (.slice aa nl c)) lo w1.heap.size a n l := fun hlo ho => ho.kept fun q h1 h2 => heap_setCell_other _ _ _ _ (by show q ≠ w0.heap.size; omega)
     rw [hsz2]
     by_cases hje : j = k
     ·subst hje
      dsimp only
      rw [if_pos rfl, if_pos rfl, if_pos rfl]
      exact ⟨hkeep (by omega) (HOn.out.more (by omega) (Nat.le_refl _)), HCC.out⟩
     ·dsimp only
      rw [if_neg hje, if_neg hje, if_neg hje]
      exact ⟨hkeep (by omega) ((HOw1.out j (by omega)).more (Nat.le_refl _) hs1), (HOw.out j (by omega)).2⟩
    ·exact HB3.out.setCell (Nat.le_refl _) _
 ·clear hw0 HV HO HM HL hnil hzv hnv HNl HX
  rintro a' w' ⟨H, T, A, N, C, R, va, vc, u4, u6, u7, u8, u9, u10, u11, u12, u13, u14, u15, u16, u17, u18, u19, u20, u21, u22, u23, u24, u25, u26, u27, u28, u29, u30, u31, u32, u33, u34, u35, u36, u37, u38, u39, u40, u41, u42, u43, rfl, HJ⟩

  generalize hb3 : w0.heap.size = b3 at *
  obtain ⟨nB, HJ0⟩ := HJ.out
  have HJ := Lib.hid HJ0
  have hi1 := HJ0.hi1
  have hi2 := HJ0.hi2
  have hb0 := HJ0.below.size
  have hHl : H.length + T.length = (histL xs l).length := by rw [← HJ0.sum, List.length_append]
  have hr : w'.cell? ⟨b3, 0, none⟩ = some (.slice (A 0) (N 0) (C 0)) ∧ w'.cell? ⟨b3, 1, none⟩ = some (.slice (A 1) (N 1) (C 1)) ∧ w'.cell? ⟨b3, 2, none⟩ = some (.slice (A 2) (N 2) (C 2)) ∧ w'.cell? ⟨b3, 3, none⟩ = some (.slice (A 3) (N 3) (C 3)) := by
   refine ⟨?_, ?_, ?_, ?_⟩ <;> (rw [cell_of_row _ _ _ _ _ _ HJ0.arr]; rfl)
  have HR4 := Lib.hid hr
  obtain ⟨r0, r1, r2, r3⟩ := hr
  clear HJ0
  go_wp2
  go_loopw [5, 18] (fun v i wr => ∃ k : Nat, k ≤ 4 ∧ v = .slice va H.length vc ∧ i = .int .i64 (k : Int) ∧ Hid (∀ d, d < k → ∀ x rest, R d = x :: rest → precB R x = false) ∧ Hid (Below w'.heap.size w' wr)) (fun _ i _ => 4 - (intOf i).toNat)
  case atStart => exact ⟨0, by omega, rfl, rfl, Lib.hid (fun d hd => absurd hd (by omega)), Lib.hid (Below.refl _ _)⟩
  case round =>
   obtain ⟨k, hk, rfl, rfl, HK, HBr⟩ := hrel
   have hsr := HBr.out.size
   have HJr := Lib.hid (HJ.out.step HBr.out)
   clear r0 r1 r2 r3
   by_cases hlt : k < 4
   rotate_left
   ·obtain rfl : k = 4 := by omega
    have hT := HJ.out.mrg.stuck HK.out
    have hHe : H = histL xs l := by have := HJ.out.sum; rw [hT, List.append_nil] at this; exact this
    subst hT
    have HHe := Lib.hid hHe
    clear hHe
    go_wp2
    go_ret
    have hh := HJr.out.hist
    rw [HHe.out] at hh ⊢
    exact ⟨va, vc, rfl, own_cap hh, (own_of_cells hh (Nat.le_refl _)).more (by omega) (Nat.le_refl _), HB.out.trans (HJr.out.below.mono (by omega))⟩
   have hOk := HJr.out.own k hlt
   have hLk : (R k).length = N k := hOk.1
   have hcap := HJ.out.cap k hlt
   have ix : ∀ (a0 a1 a2 a3 : Option Addr) (n0 n1 n2 n3 c0 c1 c2 c3 : Nat) (k : Nat), k < 4 → ∀ (a : Option Addr) (n c : Nat), (if k = 0 then Value.slice a0 n0 c0 else if k = 1 then .slice a1 n1 c1 else if k = 2 then .slice a2 n2 c2 else .slice a3 n3 c3) = .slice a n c → ∀ w : World, (Instr.index 79 (.agg #[.slice a0 n0 c0, .slice a1 n1 c1, .slice a2 n2 c2, .slice a3 n3 c3]) (.int .i64 (k : Int))).run Tryz.prog w = .ok (.slice a n c) w := by
    intro a0 a1 a2 a3 n0 n1 n2 n3 c0 c1 c2 c3 k hk a n c h w
    obtain rfl | rfl | rfl | rfl : k = 0 ∨ k = 1 ∨ k = 2 ∨ k = 3 := by omega
    ·rw [← h]; kernel_rfl
    ·rw [← h]; kernel_rfl
    ·rw [← h]; kernel_rfl
    ·rw [← h]; kernel_rfl
   have hvk : (if k = 0 then Value.slice (A 0) (N 0) (C 0) else if k = 1 then .slice (A 1) (N 1) (C 1) else if k = 2 then .slice (A 2) (N 2) (C 2) else .slice (A 3) (N 3) (C 3)) = .slice (A k) (N k) (C k) := by
    obtain rfl | rfl | rfl | rfl : k = 0 ∨ k = 1 ∨ k = 2 ∨ k = 3 := by omega
    all_goals rfl
   obtain ⟨r0, r1, r2, r3⟩ := HR4.out
   have hr : wr.cell? ⟨b3, 0, none⟩ = some (.slice (A 0) (N 0) (C 0)) ∧ wr.cell? ⟨b3, 1, none⟩ = some (.slice (A 1) (N 1) (C 1)) ∧ wr.cell? ⟨b3, 2, none⟩ = some (.slice (A 2) (N 2) (C 2)) ∧ wr.cell? ⟨b3, 3, none⟩ = some (.slice (A 3) (N 3) (C 3)) := ⟨(HBr.out.cell (block_lt_of_cell r0)).trans r0, (HBr.out.cell (block_lt_of_cell r1)).trans r1, (HBr.out.cell (block_lt_of_cell r2)).trans r2, (HBr.out.cell (block_lt_of_cell r3)).trans r3⟩
   clear r0 r1 r2 r3
   by_cases hz : N k = 0
   ·have hix := ix (A 0) (A 1) (A 2) (A 3) (N 0) (N 1) (N 2) (N 3) (C 0) (C 1) (C 2) (C 3) k hlt _ _ _ hvk
    have HRk : Hid (R k = []) := List.eq_nil_of_length_eq_zero (by omega)
    have HK2 : Hid (∀ d, d < k + 1 → ∀ x rest, R d = x :: rest → precB R x = false) := fun d hd x rest e => by
     rcases Nat.lt_or_ge d k with h1 | h1
     ·exact HK.out d h1 x rest e
     ·obtain rfl : d = k := by omega
      rw [HRk.out] at e; cases e
    have hzi : decide (0 < N k) = false := decide_eq_false (by omega)
    have hS : wr.drew.cell? ⟨b3, 0, none⟩ = some (.slice (A 0) (N 0) (C 0)) ∧ wr.drew.cell? ⟨b3, 1, none⟩ = some (.slice (A 1) (N 1) (C 1)) ∧ wr.drew.cell? ⟨b3, 2, none⟩ = some (.slice (A 2) (N 2) (C 2)) ∧ wr.drew.cell? ⟨b3, 3, none⟩ = some (.slice (A 3) (N 3) (C 3)) := hr
    clear hr ix hvk hOk hLk hz
    go_wp2_with fail
    refine wp_region_held_drew (S := fun w' => w'.cell? ⟨b3, 0, none⟩ = some (.slice (A 0) (N 0) (C 0)) ∧ w'.cell? ⟨b3, 1, none⟩ = some (.slice (A 1) (N 1) (C 1)) ∧ w'.cell? ⟨b3, 2, none⟩ = some (.slice (A 2) (N 2) (C 2)) ∧ w'.cell? ⟨b3, 3, none⟩ = some (.slice (A 3) (N 3) (C 3))) (by kernel_rfl) hS (fun hHeld => ?_)
    refine tk 0 { dst := some 22, op := .move (.tmp 7), type := 25, pos := "l08_pages.go:28", after := #[], guard := none } ?_
    (try simp only [Act.put, u1, u2, u3])
    refine tk 1 { dst := some 23, op := .call { callee := .builtin .len, args := #[.tmp 22], argTypes := #[25] }, type := 3, pos := "l08_pages.go:28", after := #[⟨0, .data⟩], guard := none } ?_
    (try simp only [Act.put, u1, u2, u3])
    refine tk 2 { dst := some 24, op := .binOp .gtr 3 (.tmp 23) (.const (Value.int IntKind.i64 0)) 3, type := 4, pos := "l08_pages.go:28", after := #[⟨1, .data⟩], guard := none } ?_
    (try simp only [Act.put, u1, u2, u3])
    refine tk 3 { dst := some 25, op := .move (.tmp 24), type := 4, pos := "l08_pages.go:28", after := #[⟨2, .data⟩], guard := none } ?_
    (try simp only [Act.put, u1, u2, u3])
    refine sk 4 { dst := some 26, op := .move (.tmp 7), type := 25, pos := "l08_pages.go:28", after := #[⟨3, .guard⟩], guard := some (3, true) } ?_
    (try simp only [Act.put, u1, u2, u3])
    refine sk 5 { dst := some 27, op := .indexAddr 25 (.tmp 26) (.const (Value.int IntKind.i64 0)), type := 0, pos := "l08_pages.go:28", after := #[⟨4, .data⟩, ⟨3, .guard⟩], guard := some (3, true) } ?_
    (try simp only [Act.put, u1, u2, u3])
    refine sk 6 { dst := some 28, op := .load 39 (.tmp 27), type := 39, pos := "l08_pages.go:28", after := #[⟨5, .data⟩, ⟨3, .guard⟩], guard := some (3, true) } ?_
    (try simp only [Act.put, u1, u2, u3])
    refine sk 7 { dst := some 29, op := .load 79 (.tmp 3), type := 79, pos := "l08_pages.go:28", after := #[⟨3, .guard⟩], guard := some (3, true) } ?_
    (try simp only [Act.put, u1, u2, u3])
    refine sk 8 { dst := some 30, op := .call { callee := .value (.func 62), args := #[.tmp 28, .tmp 29], argTypes := #[39, 79] }, type := 4, pos := "l08_pages.go:28", after := #[⟨6, .data⟩, ⟨7, .data⟩, ⟨3, .chain⟩, ⟨3, .guard⟩], guard := some (3, true) } ?_
    (try simp only [Act.put, u1, u2, u3])
    refine tk 9 { dst := some 31, op := .pick (.tmp 25) (.tmp 30) (.const (Value.bool false)), type := 4, pos := "l08_pages.go:28", after := #[⟨3, .data⟩, ⟨8, .data⟩], guard := none } ?_
    (try simp only [Act.put, u1, u2, u3])
    refine wpAnyH_done (by kernel_rfl) ?_ _
    have HBd : Hid (Below w'.heap.size w' wr.drew) := ⟨HBr.out.os, HBr.out.tape, HBr.out.output, HBr.out.size, HBr.out.block⟩
    clear hS hHeld
    go_wp2
    go_roundw
    case rel => exact ⟨k + 1, by omega, rfl, by go_num, HK2, HBd⟩
    case measure => simp [intOf]; omega
   obtain ⟨x, rest, hRk⟩ : ∃ x rest, R k = x :: rest := by
    cases hR : R k with
    | nil => rw [hR] at hLk; exact absurd hLk.symm hz
    | cons x rest => exact ⟨x, rest, rfl⟩
   have hz9 : 0 < N k := by omega
   obtain ⟨b, off, hA, hb, ho⟩ := hOk.ops.2 0 hz9
   have ho : OpAt wr b off x := by
    have e : atOp (R k) 0 = x := by rw [hRk]; rfl
    have h1 : OpAt wr b (off + 0 * 8) (atOp (R k) 0) := ho
    rw [Nat.zero_mul, Nat.add_zero, e] at h1
    exact h1
   rw [hA] at hvk
   have hix := ix (A 0) (A 1) (A 2) (A 3) (N 0) (N 1) (N 2) (N 3) (C 0) (C 1) (C 2) (C 3) k hlt _ _ _ hvk
   obtain ⟨d0, d1, d2, d3, d4, d5, d6, d7⟩ := ho
   have hS : (wr.drew.cell? ⟨b3, 0, none⟩ = some (.slice (A 0) (N 0) (C 0)) ∧ wr.drew.cell? ⟨b3, 1, none⟩ = some (.slice (A 1) (N 1) (C 1)) ∧ wr.drew.cell? ⟨b3, 2, none⟩ = some (.slice (A 2) (N 2) (C 2)) ∧ wr.drew.cell? ⟨b3, 3, none⟩ = some (.slice (A 3) (N 3) (C 3))) ∧ wr.drew.cell? ⟨b, off, none⟩ = some (.int .i64 x.dev) ∧ wr.drew.cell? ⟨b, off + 1, none⟩ = some (.int .i64 x.seq) ∧ wr.drew.cell? ⟨b, off + 2, none⟩ = some (.int .i64 x.stamp) ∧ wr.drew.cell? ⟨b, off + 3, none⟩ = some (.int .i64 x.kind) ∧ wr.drew.cell? ⟨b, off + 4, none⟩ = some (.string x.item) ∧ wr.drew.cell? ⟨b, off + 5, none⟩ = some (.int .i64 x.qty) ∧ wr.drew.cell? ⟨b, off + 6, none⟩ = some (.int .i64 x.level) ∧ wr.drew.cell? ⟨b, off + 7, none⟩ = some (.int .i64 x.undos) := ⟨hr, d0, d1, d2, d3, d4, d5, d6, d7⟩
   have HRk := Lib.hid hRk
   have HAk := Lib.hid hA
   have hzi : decide (0 < N k) = true := decide_eq_true hz9
   have hzi2 : (0 : Int) < (N k : Int) := by omega
   have HOe : Hid (∀ e, e < 4 → Ops wr.drew nB (A e) (N e) (R e)) := fun e he => (HJr.out.own e he).ops.kept fun _ _ => rfl
   have HLim := Lib.hid HJ.out.lim
   have hnr : nB ≤ wr.drew.heap.size := by show nB ≤ wr.heap.size; omega
   clear hr ix hvk hOk hLk hz hA hRk d0 d1 d2 d3 d4 d5 d6 d7
   go_wp2_with fail
   refine wp_region_held_drew (S := fun w' => (w'.cell? ⟨b3, 0, none⟩ = some (.slice (A 0) (N 0) (C 0)) ∧ w'.cell? ⟨b3, 1, none⟩ = some (.slice (A 1) (N 1) (C 1)) ∧ w'.cell? ⟨b3, 2, none⟩ = some (.slice (A 2) (N 2) (C 2)) ∧ w'.cell? ⟨b3, 3, none⟩ = some (.slice (A 3) (N 3) (C 3))) ∧ w'.cell? ⟨b, off, none⟩ = some (.int .i64 x.dev) ∧ w'.cell? ⟨b, off + 1, none⟩ = some (.int .i64 x.seq) ∧ w'.cell? ⟨b, off + 2, none⟩ = some (.int .i64 x.stamp) ∧ w'.cell? ⟨b, off + 3, none⟩ = some (.int .i64 x.kind) ∧ w'.cell? ⟨b, off + 4, none⟩ = some (.string x.item) ∧ w'.cell? ⟨b, off + 5, none⟩ = some (.int .i64 x.qty) ∧ w'.cell? ⟨b, off + 6, none⟩ = some (.int .i64 x.level) ∧ w'.cell? ⟨b, off + 7, none⟩ = some (.int .i64 x.undos)) (by kernel_rfl) hS (fun hHeld => ?_)
   refine tk 0 { dst := some 22, op := .move (.tmp 7), type := 25, pos := "l08_pages.go:28", after := #[], guard := none } ?_
   (try simp only [Act.put, u1, u2, u3])
   refine tk 1 { dst := some 23, op := .call { callee := .builtin .len, args := #[.tmp 22], argTypes := #[25] }, type := 3, pos := "l08_pages.go:28", after := #[⟨0, .data⟩], guard := none } ?_
   (try simp only [Act.put, u1, u2, u3])
   refine tk 2 { dst := some 24, op := .binOp .gtr 3 (.tmp 23) (.const (Value.int IntKind.i64 0)) 3, type := 4, pos := "l08_pages.go:28", after := #[⟨1, .data⟩], guard := none } ?_
   (try simp only [Act.put, u1, u2, u3])
   refine tk 3 { dst := some 25, op := .move (.tmp 24), type := 4, pos := "l08_pages.go:28", after := #[⟨2, .data⟩], guard := none } ?_
   (try simp only [Act.put, u1, u2, u3])
   refine tk 4 { dst := some 26, op := .move (.tmp 7), type := 25, pos := "l08_pages.go:28", after := #[⟨3, .guard⟩], guard := some (3, true) } ?_
   (try simp only [Act.put, u1, u2, u3])
   refine tk 5 { dst := some 27, op := .indexAddr 25 (.tmp 26) (.const (Value.int IntKind.i64 0)), type := 0, pos := "l08_pages.go:28", after := #[⟨4, .data⟩, ⟨3, .guard⟩], guard := some (3, true) } ?_
   (try simp only [Act.put, u1, u2, u3])
   refine tk 6 { dst := some 28, op := .load 39 (.tmp 27), type := 39, pos := "l08_pages.go:28", after := #[⟨5, .data⟩, ⟨3, .guard⟩], guard := some (3, true) } ?_
   (try simp only [Act.put, u1, u2, u3])
   refine tk 7 { dst := some 29, op := .load 79 (.tmp 3), type := 79, pos := "l08_pages.go:28", after := #[⟨3, .guard⟩], guard := some (3, true) } ?_
   (try simp only [Act.put, u1, u2, u3])
   refine wpAnyH_ready (rs := [8]) (by kernel_rfl) (by simp) ?_
   refine AllReadyH.cons (o := { dst := some 30, op := .call { callee := .value (.func 62), args := #[.tmp 28, .tmp 29], argTypes := #[39, 79] }, type := 4, pos := "l08_pages.go:28", after := #[⟨6, .data⟩, ⟨7, .data⟩, ⟨3, .chain⟩, ⟨3, .guard⟩], guard := some (3, true) }) rfl (fun K hK => ?_) AllReadyH.nil
   go_simp
   go_at_call 62
   refine (precedesNext wr.drew nB A N C R x HOe.out hnr HLim.out).mono ?_
   rintro e w2 ⟨rfl, hb2⟩
   have hS2 : (w2.cell? ⟨b3, 0, none⟩ = some (.slice (A 0) (N 0) (C 0)) ∧ w2.cell? ⟨b3, 1, none⟩ = some (.slice (A 1) (N 1) (C 1)) ∧ w2.cell? ⟨b3, 2, none⟩ = some (.slice (A 2) (N 2) (C 2)) ∧ w2.cell? ⟨b3, 3, none⟩ = some (.slice (A 3) (N 3) (C 3))) ∧ w2.cell? ⟨b, off, none⟩ = some (.int .i64 x.dev) ∧ w2.cell? ⟨b, off + 1, none⟩ = some (.int .i64 x.seq) ∧ w2.cell? ⟨b, off + 2, none⟩ = some (.int .i64 x.stamp) ∧ w2.cell? ⟨b, off + 3, none⟩ = some (.int .i64 x.kind) ∧ w2.cell? ⟨b, off + 4, none⟩ = some (.string x.item) ∧ w2.cell? ⟨b, off + 5, none⟩ = some (.int .i64 x.qty) ∧ w2.cell? ⟨b, off + 6, none⟩ = some (.int .i64 x.level) ∧ w2.cell? ⟨b, off + 7, none⟩ = some (.int .i64 x.undos) := ⟨⟨(hb2.cell (block_lt_of_cell hS.1.1)).trans hS.1.1, (hb2.cell (block_lt_of_cell hS.1.2.1)).trans hS.1.2.1, (hb2.cell (block_lt_of_cell hS.1.2.2.1)).trans hS.1.2.2.1, (hb2.cell (block_lt_of_cell hS.1.2.2.2)).trans hS.1.2.2.2⟩, (hb2.cell (block_lt_of_cell hS.2.1)).trans hS.2.1, (hb2.cell (block_lt_of_cell hS.2.2.1)).trans hS.2.2.1, (hb2.cell (block_lt_of_cell hS.2.2.2.1)).trans hS.2.2.2.1, (hb2.cell (block_lt_of_cell hS.2.2.2.2.1)).trans hS.2.2.2.2.1, (hb2.cell (block_lt_of_cell hS.2.2.2.2.2.1)).trans hS.2.2.2.2.2.1, (hb2.cell (block_lt_of_cell hS.2.2.2.2.2.2.1)).trans hS.2.2.2.2.2.2.1, (hb2.cell (block_lt_of_cell hS.2.2.2.2.2.2.2.1)).trans hS.2.2.2.2.2.2.2.1, (hb2.cell (block_lt_of_cell hS.2.2.2.2.2.2.2.2)).trans hS.2.2.2.2.2.2.2.2⟩
   refine hK.out _ _ hS2 (fun hHeld2 => ?_)
   clear hK K
   (try simp only [Act.put, u1, u2, u3])
   refine tk 9 { dst := some 31, op := .pick (.tmp 25) (.tmp 30) (.const (Value.bool false)), type := 4, pos := "l08_pages.go:28", after := #[⟨3, .data⟩, ⟨8, .data⟩], guard := none } ?_
   (try simp only [Act.put, u1, u2, u3])
   refine wpAnyH_done (by kernel_rfl) ?_ _
   have hbb : Below wr.heap.size wr w2 := ⟨hb2.os, hb2.tape, hb2.output, hb2.size, hb2.block⟩
   have HB2 : Hid (Below w'.heap.size w' w2) := HBr.out.trans (hbb.mono HBr.out.size)
   have HJ2 := Lib.hid (HJr.out.step hbb)
   have hs2 := hbb.size
   have HS2 := Lib.hid hS2
   clear hS hS2 hHeld hHeld2 hb2 hbb HOe HLim
   rcases hpB : precB R x with _ | _
   ·have HK2 : Hid (∀ d, d < k + 1 → ∀ x rest, R d = x :: rest → precB R x = false) := fun d hd y r e => by
     rcases Nat.lt_or_ge d k with h1 | h1
     ·exact HK.out d h1 y r e
     ·obtain rfl : d = k := by omega
      rw [HRk.out] at e
      cases e
      exact hpB
    clear hpB
    go_wp2
    go_roundw
    case rel => exact ⟨k + 1, by omega, rfl, by go_num, HK2, HB2⟩
    case measure => simp [intOf]; omega
   have HpB := Lib.hid hpB
   clear hpB
   obtain ⟨⟨r0, r1, r2, r3⟩, d0, d1, d2, d3, d4, d5, d6, d7⟩ := HS2.out
   have hHl2 : H.length ≤ 1048576 := by have := HIl.out; omega
   have hhist := HJ2.out.hist
   have hown1 := hhist.alloc (.cells #[.int .i64 x.dev, .int .i64 x.seq, .int .i64 x.stamp, .int .i64 x.kind, .string x.item, .int .i64 x.qty, .int .i64 x.level, .int .i64 x.undos] 39)
   have hs2b : nB ≤ w2.heap.size := by omega
   go_wp2_with (at_builtin; refine wpList_append_own _ rfl _ _ 25 rfl nB 39 i0 (.agg #[.int .i64 0, .int .i64 0, .int .i64 0, .int .i64 0, .string ⟨#[]⟩, .int .i64 0, .int .i64 0, .int .i64 0]) 8 72 Tryz.underlying25 hi hz0 hz1 hz2 rfl (by decide) _ _ _ rfl hown1 ⟨w2.heap.size, 0, none⟩ 1 1 (opRow x) rfl ?c0 ?c1 ?c2 ?c3 ?c4 ?c5 ?_)
   case c0 => rfl
   case c1 => exact opRow_new w2 x
   case c2 =>
    intro u hu
    exact opCells_one [x] u (by show u ∈ opRow x ++ []; rw [List.append_nil]; exact hu)
   case c3 => unfold maxLen; omega
   case c4 => omega
   case c5 => simp; omega
   intro v' w3 hown3 hgrow _
   have hbg : Below nB w2 w3 := ((Below.refl nB w2).alloc hs2b (.cells #[.int .i64 x.dev, .int .i64 x.seq, .int .i64 x.stamp, .int .i64 x.kind, .string x.item, .int .i64 x.qty, .int .i64 x.level, .int .i64 x.undos] 39)).grown hgrow (by simp; omega) (fun j hj => (hown1.lt j hj).1)
   have HHh : Hid (w3.ownsRow nB 39 8 v' (H.length + 1) (opCells H ++ opRow x)) := hown3
   have r0' := (hbg.cell (by show b3 < nB; omega)).trans r0
   have r1' := (hbg.cell (by show b3 < nB; omega)).trans r1
   have r2' := (hbg.cell (by show b3 < nB; omega)).trans r2
   have r3' := (hbg.cell (by show b3 < nB; omega)).trans r3
   have rk : w3.cell? ⟨b3, k, none⟩ = some (.slice (A k) (N k) (C k)) := by
    obtain rfl | rfl | rfl | rfl : k = 0 ∨ k = 1 ∨ k = 2 ∨ k = 3 := by omega
    ·exact r0'
    ·exact r1'
    ·exact r2'
    ·exact r3'
   have hA3 := (hbg.block b3 (by omega)).trans HJ2.out.arr
   have hfz : ∀ j, w3.frozen? ⟨b3, j, none⟩ = false := fun j => by simp [World.frozen?, hA3]
   obtain ⟨T', HJ3⟩ := HJ2.out.put hlt HRk.out HpB.out hbg HHh.out
   have HJ3 := Lib.hid HJ3
   obtain ⟨ve, vf, rfl⟩ : ∃ ve vf, v' = .slice ve (H.length + 1) vf := by
    rcases HHh.out.2 with ⟨_, e2⟩ | ⟨g, c, cur, e, _⟩
    ·cases e2
    ·exact ⟨_, c, e⟩
   clear hown3 hgrow hown1 hhist d0 d1 d2 d3 d4 d5 d6 d7 r0 r1 r2 r3 r0' r1' r2' r3' hA3 HHh
   have hlen : H.length + 1 + T'.length = (histL xs l).length := by rw [← HJ3.out.sum]; simp; omega
   have HE : Hid (H.length + 1 = (H ++ [x]).length) := by show _ = _; simp
   have HJ4 := HJ3.out
   clear HJ3
   by_cases hc1 : C k = 1
   ·simp only [if_pos hc1, HAk.out] at HJ4
    rw [HE.out, hc1] at HJ4
    simp only [Nat.sub_self] at HJ4
    have HJ5 := Lib.hid HJ4
    clear HJ4
    rw [hc1] at rk ⊢
    go_wp2
    go_step3
    rw [HE.out]
    refine ⟨rfl, ⟨H ++ [x], T', _, _, _, _, ve, vf, _, _, _, _, _, _, _, _, _, _, _, _, _, _, _, _, _, _, _, _, _, _, _, _, _, _, _, _, _, _, _, _, _, _, _, _, _, _, _, rfl, Lib.hid ⟨nB, HJ5.out⟩⟩, ?_⟩
    simp [lenOf]
    omega
   ·simp only [if_neg hc1, HAk.out, Option.map_some, add_at] at HJ4
    rw [HE.out] at HJ4
    have HJ5 := Lib.hid HJ4
    clear HJ4
    go_wp2
    go_step3
    rw [HE.out]
    refine ⟨rfl, ⟨H ++ [x], T', _, _, _, _, ve, vf, _, _, _, _, _, _, _, _, _, _, _, _, _, _, _, _, _, _, _, _, _, _, _, _, _, _, _, _, _, _, _, _, _, _, _, _, _, _, _, rfl, Lib.hid ⟨nB, HJ5.out⟩⟩, ?_⟩
    simp [lenOf]
    omega
theorem implHistory (w : World) (B : Nat) (av ao : Option Addr) (nv cv no co : Nat) (xs : List Int) (l : List OpV) (hx : Ints w B av nv xs) (h : Ops w B ao no l) (hB : B ≤ w.heap.size) (hv : nv ≤ 1048576) (hvc : nv ≤ cv) (hc : no ≤ co) (hc2 : Fits no co) (hnil : ao = none → co = 0) (hm : ∀ i, i < no → (atOp l i).item.size ≤ 1048576) :
  Calls Tryz.prog 34 #[.agg #[.slice av nv cv, .slice ao no co]] w (OpsPost (histL xs l) w) :=
 (implHistoryC w B av ao nv cv no co xs l hx h hB hv hvc hc hc2 hnil hm).mono fun _ _ ⟨a, c, h1, _, h3, h4⟩ => ⟨a, c, h1, h3, h4⟩
end Go.Proofs.YtejhmakfbmhhhaaGreat
