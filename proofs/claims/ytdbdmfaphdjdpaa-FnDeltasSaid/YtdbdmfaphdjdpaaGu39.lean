/- Walks and mathematics that several claims share, part 39. -/
import Derived.Test.YtdbdmfaphdjdpaaGu38
import Derived.Test.YtdbdmfaphdjdpaaGu20
import Derived.Test.YtdbdmfaphdjdpaaGu25
import Derived.Deep.Cut
import Derived.Test.YtdbdmfaphdjdpaaGuA
namespace Go.Proofs.Ytdbdmfaphdjdpaa
set_option maxRecDepth 100000
open Go.RowKit
set_option linter.unusedVariables false
set_option linter.unusedSimpArgs false

/-- A vector and a row of operations of the call's own, above a block, and not in another one. -/
structure PartO (w : World) (lo P : Nat) (pv : Option Addr) (vs : List Int) (po : Option Addr) (pk : Nat) (os : List OpV) : Prop where
 vec : ∃ l1 h1, lo ≤ l1 ∧ (P < l1 ∨ h1 ≤ P) ∧ h1 ≤ w.heap.size ∧ Own w l1 h1 pv vs.length vs
 row : ∃ base, lo ≤ base ∧ w.ownsRow base 77 8 (.slice po os.length pk) os.length (opCells os)
 far : ∀ g, (Value.slice po os.length pk).ownBlock = some g → g ≠ P
theorem row_grown {w w' : World} {base n r : Nat} {v : Value} {xs : List Value} (h : w.ownsRow base 77 8 v n xs) (hg : w.grownBy w' (some r)) (hr : ∀ g, v.ownBlock = some g → g ≠ r) : w'.ownsRow base 77 8 v n xs :=
 h.kept (row := some r) hg (by
  rcases hq : v.ownBlock with _ | g
  ·exact .inl rfl
  ·exact .inr (fun e => hr g hq (by injection e)))
theorem PartO.step {w w' : World} {lo P r pk : Nat} {pv po : Option Addr} {vs : List Int} {os : List OpV} (h : PartO w lo P pv vs po pk os) (hg : w.grownBy w' (some r)) (hr : r < lo) : PartO w' lo P pv vs po pk os := by
 obtain ⟨l1, h1, a1, a2, a3, a4⟩ := h.vec
 obtain ⟨base, b1, b2⟩ := h.row
 exact ⟨⟨l1, h1, a1, a2, Nat.le_trans a3 hg.size, a4.kept fun j q1 q2 => hg.block j (by omega) (by intro e; injection e with e; omega)⟩, ⟨base, b1, row_grown b2 hg fun g hgg => by have := (b2.lt g hgg).1; omega⟩, h.far⟩
theorem PartO.ints {w : World} {lo P pk : Nat} {pv po : Option Addr} {vs : List Int} {os : List OpV} (h : PartO w lo P pv vs po pk os) : IntsFar w lo P pv vs.length vs := by
 obtain ⟨l1, h1, a1, a2, a3, a4⟩ := h.vec
 exact far_ints a4 a1 a2 a3
theorem row_far {w : World} {lo P base : Nat} {po : Option Addr} {n pk : Nat} {os : List OpV} (hn : os.length = n) (b1 : lo ≤ base) (b2 : w.ownsRow base 77 8 (.slice po n pk) n (opCells os)) (hf : ∀ g, (Value.slice po n pk).ownBlock = some g → g ≠ P) : OpsFar w lo P po n os := by
 subst hn
 refine ⟨(own_of_cells b2 (Nat.le_refl _)).ops, fun b o h0 e => ?_⟩
 have hb : (Value.slice po os.length pk).ownBlock = some b := by rw [e]; rfl
 exact ⟨Nat.le_trans b1 (b2.lt b hb).1, hf b hb⟩
theorem PartO.ops {w : World} {lo P pk : Nat} {pv po : Option Addr} {vs : List Int} {os : List OpV} (h : PartO w lo P pv vs po pk os) : OpsFar w lo P po os.length os := by
 obtain ⟨base, b1, b2⟩ := h.row
 exact row_far rfl b1 b2 h.far
theorem row_type {w : World} {base n P : Nat} {v : Value} {xs : List Value} {cs : Array Value} {T : TypeId} {fr : Nat × Nat} (h : w.ownsRow base 77 8 v n xs) (hp : w.heap[P]? = some (.cells cs T fr)) (hT : T ≠ 77) : ∀ g, v.ownBlock = some g → g ≠ P := fun g hg e => by
 rcases h.2 with ⟨e1, _⟩ | ⟨g', cap, cur, e1, _, h2, _⟩
 ·rw [e1] at hg; cases hg
 ·rw [e1] at hg
  have hgg : g' = g := by injection hg
  rw [hgg, e, hp] at h2
  injection h2 with h2
  injection h2 with _ h3
  exact hT h3
theorem vec_apart {w z : World} {lo P base n : Nat} {pv : Option Addr} {vs : List Int} {v : Value} {xs : List Value} (hv : ∃ l1 h1, lo ≤ l1 ∧ (P < l1 ∨ h1 ≤ P) ∧ h1 ≤ w.heap.size ∧ Own w l1 h1 pv vs.length vs) (hr : z.ownsRow base 77 8 v n xs) (hz : ∀ j, j < w.heap.size → z.heap[j]? = w.heap[j]?) {b o : Nat} (hn : 0 < vs.length) (e : pv = some ⟨b, o, none⟩) : v.ownBlock ≠ some b := fun h => by
 obtain ⟨l1, h1, _, _, a3, a4⟩ := hv
 obtain ⟨g, cur, e1, q1, q2, q3, _⟩ := a4.2 hn
 rw [e] at e1
 injection e1 with e1
 injection e1 with e1
 subst e1
 exact row_type hr ((hz b (by omega)).trans q3) (by decide) b h rfl
theorem IntsFar.at {w w' : World} {lo p n : Nat} {a : Option Addr} {xs : List Int} (h : IntsFar w lo p a n xs) (hk : ∀ b o, 0 < n → a = some ⟨b, o, none⟩ → w'.heap[b]? = w.heap[b]?) (hs : w.heap.size ≤ w'.heap.size) : IntsFar w' lo p a n xs :=
 ⟨⟨h.1.1, fun i hi => by
  obtain ⟨b, off, e, hb, ho⟩ := h.1.2 i hi
  exact ⟨b, off, e, by omega, (World.cell?_of_block (a := ⟨b, off + i, none⟩) (hk b off (by omega) e)).trans ho⟩⟩, h.2⟩
theorem IntsFar.lt {w : World} {lo p n : Nat} {a : Option Addr} {xs : List Int} (h : IntsFar w lo p a n xs) {b o : Nat} (hn : 0 < n) (e : a = some ⟨b, o, none⟩) : b < w.heap.size := by
 obtain ⟨b', o', e', hb, _⟩ := h.1.2 0 hn
 rw [e] at e'
 injection e' with e'
 injection e' with e'
 omega
theorem D1.grow {w wr w1 : World} {B g : Nat} {a : Option Addr} {len cap : Nat} {u : Array Value} {row : Option Nat} (h : D1 w wr B g a len cap u) (hg : wr.grownBy w1 row) (hr : ∀ k, row = some k → g < k) : D1 w w1 B g a len cap u := by
 have hgl := h.glt
 have hs := h.bel.size
 have hB := h.rd.own
 exact ⟨(hg.block _ (Array.getElem?_eq_some_iff.1 h.ra).1 (by intro e; have := hr _ e.symm; omega)).trans h.ra, h.bel.grown hg hs (fun k hk => by have := hr k hk; omega), h.rd.grown hg (fun k hk => by have := hr k hk; omega), hgl⟩
theorem own_set {w : World} {l1 h1 n : Nat} {vb : Nat} {vs : List Int} (d : Int) (h : Own w l1 h1 (some ⟨vb, 0, none⟩) n vs) (hn : 0 < n) : Own (w.setCell ⟨vb, 0, none⟩ (.int .i64 d)) l1 h1 (some ⟨vb, 0, none⟩) n (vs.set 0 d) := by
 obtain ⟨g, cur, e, q1, q2, q3, q4⟩ := h.2 hn
 injection e with e
 injection e with e
 subst e
 refine ⟨by rw [List.length_set]; exact h.1, fun _ => ⟨vb, cur.setIfInBounds 0 (.int .i64 d), rfl, q1, q2, heap_setCell_same _ _ _ _ _ _ q3, fun i hi => ?_⟩⟩
 rw [Array.getElem?_setIfInBounds]
 have h0 := q4 0 hn
 have hc : 0 < cur.size := (Array.getElem?_eq_some_iff.1 h0).1
 have hl := h.1
 by_cases hi0 : 0 = i
 ·subst hi0
  rw [if_pos rfl, if_pos hc]
  rw [List.getD_eq_getElem?_getD, List.getElem?_set_self (by omega)]
  rfl
 ·rw [if_neg hi0, q4 i hi, List.getD_eq_getElem?_getD, List.getD_eq_getElem?_getD, List.getElem?_set_ne hi0]
theorem items_snoc {l : List OpV} {x : OpV} {N : Nat} (h : ∀ i, i < l.length → (atOp l i).item.size ≤ N) (hx : x.item.size ≤ N) : ∀ i, i < l.length + 1 → (atOp (l ++ [x]) i).item.size ≤ N := fun i hi => by
 rcases Nat.lt_or_ge i l.length with h1 | h1
 ·have e : atOp (l ++ [x]) i = atOp l i := by unfold atOp; rw [List.getD_eq_getElem?_getD, List.getD_eq_getElem?_getD, List.getElem?_append_left h1]
  rw [e]
  exact h i h1
 ·obtain rfl : i = l.length := by omega
  have e : atOp (l ++ [x]) l.length = x := by unfold atOp; rw [List.getD_eq_getElem?_getD, List.getElem?_append_right (Nat.le_refl _), Nat.sub_self]; rfl
  rw [e]
  exact hx
def DrawsPart (w : World) (e : Ending) (w' : World) : Prop :=
 ∃ (pv : Option Addr) (pn pc : Nat) (po : Option Addr) (pm pk : Nat) (zs : List Int) (m : List OpV), pn ≤ 4 ∧ pm ≤ 500 ∧ (∀ i, i < pm → (atOp m i).item.size ≤ 8) ∧ e = .returned (.agg #[.slice pv pn pc, .slice po pm pk]) ∧ Ints w' w'.heap.size pv pn zs ∧ Ops w' w'.heap.size po pm m ∧ Below w.heap.size w w'
set_option maxHeartbeats 80000000 in
theorem drawPartOk (w : World) (B : Nat) (a : Option Addr) (len cap : Nat) (hB : B ≤ w.heap.size) (h : Src w B a len) :
  Calls Try.prog 23 #[.slice a len cap] w (DrawsPart w) := by
 have hb0 : Below w.heap.size w (w.alloc (.cells #[.slice none 0 0, .slice none 0 0] 29)) := (Below.refl _ w).alloc (Nat.le_refl _) _
 have hT0 := boxAt (Below.refl _ (w.alloc (.cells #[.slice none 0 0, .slice none 0 0] 29)))
 have hTs : Hid ((w.alloc (.cells #[.slice none 0 0, .slice none 0 0] 29)).heap.size = w.heap.size + 1) := by show _ = _; simp
 have HS0 := Lib.hid (h.kept (w' := w.alloc (.cells #[.slice none 0 0, .slice none 0 0] 29)) fun k hk => hb0.block k (by omega))
 have HR0 := Lib.hid hT0
 have HB0 := Lib.hid hb0
 clear h hT0 hb0
 go_enter Try.func23, Try.ntmps23
 go_wp2_with fail
 generalize w.alloc (.cells #[.slice none 0 0, .slice none 0 0] 29) = w0 at HS0 HR0 HB0 hTs ⊢
 refine (l1Open w0 B a len cap (by have := hTs.out; omega) HS0.out).mono ?_
 rintro e w1 ⟨rfl, hg1, hr1⟩
 have HD1 : Hid (D1 w w1 B w0.heap.size a len cap #[.slice none 0 0, .slice none 0 0]) := ⟨(hg1.block _ (by have := hTs.out; omega) (by intro e; cases e)).trans HR0.out, HB0.out.grown hg1 (by have := hTs.out; omega) (fun k hk => by cases hk), hr1, by have := hTs.out; omega⟩
 clear hg1 hr1 HS0 HR0 HB0 hTs
 generalize w0.heap.size = g at HD1 ⊢
 go_wp2_with fail
 refine (rdCartsI w1 B g a len cap HD1.out.rd 2 14 (by omega) (by omega) (by omega) 2 14 rfl rfl).mono ?_
 rintro e w2 ⟨q, c, l, rfl, hl⟩
 have hgl := HD1.out.glt
 have hg1 := HD1.out.rd.lt
 have HL2 := Lib.hid hl
 have hs2 := hl.grown.size
 have hqlo := hl.row.lo
 have hq2 := hl.qlt
 clear hl
 go_upto_region 3 with fail
 rename_i KR hKR
 have hKall : ∀ (P : Nat) (pv : Option Addr) (pc : Nat) (po : Option Addr) (pk : Nat) (vs : List Int) (os : List OpV) (u6 u11 u12 u13 u14 u15 u16 u17 u18 u19 u20 : Value) (w3 : World), vs.length ≤ 4 → os.length ≤ 400 → Caps po os.length pk → Hid (∀ i, i < os.length → (atOp os i).item.size ≤ 8) → Hid (CrsL w1 w3 B g a len cap q l 2) → Hid (w3.heap[P]? = some (.cells #[.slice pv vs.length pc, .slice po os.length pk] 29 (0, 0))) → Hid (PartO w3 w1.heap.size P pv vs po pk os) → w1.heap.size ≤ P → P ≠ q → KR { tmps := #[.slice a len cap, undef, .pointer (some ⟨w.heap.size, 0, none⟩), .pointer (some ⟨g, 0, none⟩), .slice (some ⟨q, 0, none⟩) 2 c, .pointer (some ⟨P, 0, none⟩), u6, .slice a len cap, .pointer (some ⟨g, 0, none⟩), .pointer (some ⟨g, 0, none⟩), .slice (some ⟨q, 0, none⟩) 2 c, u11, u12, u13, u14, u15, u16, u17, u18, u19, u20, undef, undef, undef, undef, undef, undef, undef, undef, undef, undef, undef, undef, undef, undef, undef, undef, undef, undef, undef, undef, undef, undef, undef, undef, undef, undef, undef, undef, undef], defers := [] } w3 := by
  intro P pv pc po pk vs os u6 u11 u12 u13 u14 u15 u16 u17 u18 u19 u20 w3 hlv hlo hcp HIt HL3 HP3 HQ3 hpw hpq
  apply hKR
  clear hKR HL2
  have hcpk := hcp.1
  have hpl := lt_of_row HP3.out
  have HD3 := Lib.hid (HD1.out.step HL3.out.grown HL3.out.rd)
  go_wp2_with fail
  refine (belowI w3 B g a len cap HL3.out.rd 8 (by omega) (by omega)).mono ?_
  rintro e w4 ⟨v, hv, rfl, hg, hr⟩
  have HD4 := Lib.hid (HD3.out.step hg hr)
  have HP4 := Lib.hid ((hg.block _ hpl (by intro e; injection e with e; omega)).trans HP3.out)
  have HQ4 := Lib.hid (HQ3.out.step hg hg1)
  have hs4 := hg.size
  clear hg hr HL3 HP3 HQ3 HD3
  rename_i K6 hK6 K1 hK1 K0 hK0
  have hKt : ∀ (pv : Option Addr) (pn pc : Nat) (po : Option Addr) (pm pk : Nat) (zs : List Int) (m : List OpV) (u6 u11 u12 u13 u14 u15 u16 u17 u18 u19 u20 u21 u22 u23 u24 u25 u26 u27 u28 u29 u30 u31 u32 u33 u34 u35 u36 u37 u38 u39 u40 u41 u42 u43 u44 u45 u46 u47 u48 : Value) (w5 : World), pn ≤ 4 → pm ≤ 500 → (∀ i, i < pm → (atOp m i).item.size ≤ 8) → Hid (D1 w w5 B g a len cap #[.slice none 0 0, .slice none 0 0]) → Hid (w5.heap[P]? = some (.cells #[.slice pv pn pc, .slice po pm pk] 29 (0, 0))) → Hid (IntsFar w5 w1.heap.size P pv pn zs) → Hid (OpsFar w5 w1.heap.size P po pm m) → K6 { tmps := #[.slice a len cap, undef, .pointer (some ⟨w.heap.size, 0, none⟩), .pointer (some ⟨g, 0, none⟩), .slice (some ⟨q, 0, none⟩) 2 c, .pointer (some ⟨P, 0, none⟩), u6, .slice a len cap, .pointer (some ⟨g, 0, none⟩), .pointer (some ⟨g, 0, none⟩), .slice (some ⟨q, 0, none⟩) 2 c, u11, u12, u13, u14, u15, u16, u17, u18, u19, u20, u21, u22, u23, u24, u25, u26, u27, u28, u29, u30, u31, u32, u33, u34, u35, u36, u37, u38, u39, u40, u41, u42, u43, u44, u45, u46, u47, u48, undef], defers := [] } w5 := by
   intro pv pn pc po pm pk zs m u6 u11 u12 u13 u14 u15 u16 u17 u18 u19 u20 u21 u22 u23 u24 u25 u26 u27 u28 u29 u30 u31 u32 u33 u34 u35 u36 u37 u38 u39 u40 u41 u42 u43 u44 u45 u46 u47 u48 w5 h4 h5 hit HD5 HP5 HI5 HO5
   apply hK6
   clear hK6
   obtain ⟨c0, c1⟩ := pair_cells HP5.out
   obtain ⟨r0, r1⟩ := pair_cells HD5.out.ra
   obtain ⟨f0, f1⟩ := pair_frozen HD5.out.ra
   have hwlt := HD1.out.bel.size
   have hsz := pair_size w5 w.heap.size (.slice pv pn pc) (.slice po pm pk)
   have HXr : Hid (((w5.setCell ⟨w.heap.size, 0, none⟩ (.slice pv pn pc)).setCell ⟨w.heap.size, 1, none⟩ (.slice po pm pk)).heap[w.heap.size]? = some (.cells #[.slice pv pn pc, .slice po pm pk] 29 (0, 0))) := pair_set _ _ HD5.out.ra
   have HBr : Hid (Below w.heap.size w ((w5.setCell ⟨w.heap.size, 0, none⟩ (.slice pv pn pc)).setCell ⟨w.heap.size, 1, none⟩ (.slice po pm pk))) := HD5.out.bel.trans (below_set2 w5 w.heap.size 0 1 _ _)
   have HIr := Lib.hid (HI5.out.kept (w' := (w5.setCell ⟨w.heap.size, 0, none⟩ (.slice pv pn pc)).setCell ⟨w.heap.size, 1, none⟩ (.slice po pm pk)) (fun j a1 _ _ => pair_other _ _ (by omega)) (Nat.le_of_eq hsz.symm)).1
   have HOr := Lib.hid (HO5.out.kept (w' := (w5.setCell ⟨w.heap.size, 0, none⟩ (.slice pv pn pc)).setCell ⟨w.heap.size, 1, none⟩ (.slice po pm pk)) (fun j a1 _ _ => pair_other _ _ (by omega)) (Nat.le_of_eq hsz.symm)).1
   go_wp2
   change bodyPost _ _ _ _ _ ((w5.setCell ⟨w.heap.size, 0, none⟩ (.slice pv pn pc)).setCell ⟨w.heap.size, 1, none⟩ (.slice po pm pk))
   generalize (w5.setCell ⟨w.heap.size, 0, none⟩ (.slice pv pn pc)).setCell ⟨w.heap.size, 1, none⟩ (.slice po pm pk) = wf at HXr HBr HIr HOr ⊢
   obtain ⟨q0, q1⟩ := pair_cells HXr.out
   exact bodyPost_ret (v := .agg #[.slice pv pn pc, .slice po pm pk]) (by simp [results, Try.results23, go_sem, q0, q1]) rfl ⟨pv, pn, pc, po, pm, pk, zs, m, h4, h5, hit, rfl, HIr.out, HOr.out, HBr.out⟩
  have HI4 := Lib.hid HQ4.out.ints
  have HO4 := Lib.hid HQ4.out.ops
  have hve := HQ4.out.vec
  by_cases h6 : v = 6
  ·subst h6
   obtain ⟨c0, c1⟩ := pair_cells HP4.out
   by_cases h0 : 0 < os.length
   rotate_left
   ·have hz : ¬ ((0 : Int) < (os.length : Int)) := by omega
    go_wp2
    exact hKt _ _ _ _ _ _ _ _ _ _ _ _ _ _ _ _ _ _ _ _ _ _ _ _ _ _ _ _ _ _ _ _ _ _ _ _ _ _ _ _ _ _ _ _ _ _ _ _ hlv (by omega) HIt.out HD4 HP4 HI4 HO4
   have hz : (0 : Int) < (os.length : Int) := by omega
   obtain ⟨ob, of, rfl, hob, hop⟩ := HO4.out.1.2 0 h0
   rw [Nat.zero_mul, Nat.add_zero] at hop
   have hop : OpAt w4 ob of (atOp os 0) := hop
   obtain ⟨x, hx⟩ : ∃ x, atOp os 0 = x := ⟨_, rfl⟩
   rw [hx] at hop
   go_upto_region 7 with fail
   obtain ⟨i0, hi, hz0, hz1, hz2⟩ := info_parts Try.infoOp
   obtain ⟨z0, hz0e⟩ : ∃ z0, w4.drew = z0 := ⟨_, rfl⟩
   have g0 : Below w4.heap.size w4 z0 := by rw [← hz0e]; exact ⟨rfl, rfl, rfl, Nat.le_refl _, fun _ _ => rfl⟩
   have b0 := (g0.block _ (lt_of_row HP4.out)).trans HP4.out
   have hzw := g0.block
   obtain ⟨base, hbl, hrow⟩ := HQ4.out.row
   have row0 := own_row_kept hrow g0
   have HIz := Lib.hid (HI4.out.kept (fun j _ h _ => g0.block j h) g0.size)
   have HDz : Hid (D1 w z0 B g a len cap #[.slice none 0 0, .slice none 0 0]) := by rw [← hz0e]; exact HD4.out.grow (row := none) ⟨rfl, rfl, rfl, Nat.le_refl _, fun _ _ _ => rfl⟩ (fun k hk => by cases hk)
   have hpz := lt_of_row b0
   obtain ⟨e0, e1, e2, e3, e4, e5, e6, e7⟩ := hop.kept (g0.block ob hob)
   have far0 := HQ4.out.far
   clear hop hrow c0 c1 HQ4 HI4 HO4
   have row1 := row0.alloc (.cells #[.int .i64 x.dev, .int .i64 x.seq, .int .i64 x.stamp, .int .i64 x.kind, .string x.item, .int .i64 x.qty, .int .i64 x.level, .int .i64 x.undos] 77)
   have hal : Below z0.heap.size z0 (z0.alloc (.cells #[.int .i64 x.dev, .int .i64 x.seq, .int .i64 x.stamp, .int .i64 x.kind, .string x.item, .int .i64 x.qty, .int .i64 x.level, .int .i64 x.undos] 77)) := bl
   have b1 := (hal.block _ hpz).trans b0
   obtain ⟨v', z2, hrun, hown2, hgr, _⟩ := run_append_own (P := Try.prog) (z0.alloc (.cells #[.int .i64 x.dev, .int .i64 x.seq, .int .i64 x.stamp, .int .i64 x.kind, .string x.item, .int .i64 x.qty, .int .i64 x.level, .int .i64 x.undos] 77)) base 27 27 77 i0 (.agg #[.int .i64 0, .int .i64 0, .int .i64 0, .int .i64 0, .string ⟨#[]⟩, .int .i64 0, .int .i64 0, .int .i64 0]) 8 72 Try.underlying27 hi hz0 hz1 hz2 rfl (by decide) _ _ _ row1 ⟨z0.heap.size, 0, none⟩ 1 1 (opRow x) rfl (opRow_new z0 x) (fun u hu => opCells_one [x] u (by show u ∈ opRow x ++ []; rw [List.append_nil]; exact hu)) (by unfold maxLen; omega) (by omega) (by have := row0.1; have := (row0.lt ob rfl); have := hal.size; omega)
   obtain ⟨va2, vc2, rfl⟩ : ∃ va2 vc2, v' = .slice va2 (os.length + 1) vc2 := by
    rcases hown2.2 with ⟨_, e2⟩ | ⟨_, c2, _, e2, _⟩
    ·omega
    ·exact ⟨_, c2, e2⟩
   have hap : (Value.slice (some ⟨ob, of, none⟩) os.length pk).ownBlock ≠ some P := fun h => far0 P h rfl
   have b2 : z2.heap[P]? = _ := (hgr.block P (Nat.lt_of_lt_of_le hpz hal.size) (fun h => hap h.symm)).trans b1
   have far2 := row_type hown2 b2 (by decide)
   have HDf : Hid (D1 w (z2.setCell ⟨P, 1, none⟩ (.slice va2 (os.length + 1) vc2)) B g a len cap #[.slice none 0 0, .slice none 0 0]) := ((HDz.out.box _).grow hgr (fun k hk => by have := (row1.lt k hk).1; omega)).grow (row := some P) ⟨rfl, rfl, rfl, by simp [World.setCell], fun j _ hne => heap_setCell_other _ _ _ _ (fun e => hne (by rw [e]))⟩ (fun k hk => by injection hk with hk; omega)
   have HPf : Hid ((z2.setCell ⟨P, 1, none⟩ (.slice va2 (os.length + 1) vc2)).heap[P]? = some (.cells #[.slice pv vs.length pc, .slice va2 (os.length + 1) vc2] 29 (0, 0))) := heap_setCell_same _ _ _ _ _ _ b2
   have HOf : Hid (OpsFar (z2.setCell ⟨P, 1, none⟩ (.slice va2 (os.length + 1) vc2)) w1.heap.size P va2 (os.length + 1) (os ++ [x])) := row_far (by rw [List.length_append]; rfl) hbl (by rw [opCells_snoc]; exact row_put hown2 far2) far2
   have hsz3 : z0.heap.size ≤ (z2.setCell ⟨P, 1, none⟩ (.slice va2 (os.length + 1) vc2)).heap.size := by
    have h1 := hal.size
    have h2 := hgr.size
    have h3 : (z2.setCell ⟨P, 1, none⟩ (.slice va2 (os.length + 1) vc2)).heap.size = z2.heap.size := by simp [World.setCell]
    omega
   have HIf : Hid (IntsFar (z2.setCell ⟨P, 1, none⟩ (.slice va2 (os.length + 1) vc2)) w1.heap.size P pv vs.length vs) := HIz.out.at (fun b o hn e => (heap_setCell_other _ _ _ _ (HIz.out.2 b o hn e).2).trans ((hgr.block b (Nat.lt_of_lt_of_le (HIz.out.lt hn e) hal.size) (fun h => vec_apart hve row0 hzw hn e h.symm)).trans (hal.block b (HIz.out.lt hn e)))) hsz3
   have p1 := (pair_cells b0).2
   have p2 := (pair_cells b1).2
   have p3 := (pair_cells b2).2
   have f3 := (pair_frozen b2).2
   go_wp2_with fail
   have hT : True := trivial
   refine wp_region_held_drew (S := fun _ => True) (by kernel_rfl) hT (fun hHeld => ?_)
   rw [hz0e]
   clear hHeld hz0e g0
   refine tk 0 ⟨some 29, .fieldAddr 29 (.tmp 5) 1, 0, "l07_deltas.go:101", #[], none⟩ ?_
   (try simp only [Act.put, u1, u2, u3])
   refine tk 2 ⟨some 31, .fieldAddr 29 (.tmp 5) 1, 0, "l07_deltas.go:101", #[], none⟩ ?_
   (try simp only [Act.put, u1, u2, u3])
   refine wpAnyH_ready (rs := [1, 3]) (by kernel_rfl) (by simp) ?_
   refine AllReadyH.cons rfl (fun K hK => ?_) (AllReadyH.cons rfl (fun K hK => ?_) (AllReadyH.nil))
   ·skip
    go_simp
    refine hK.out _ _ trivial (fun hHeld => ?_)
    clear hK K hHeld
    (try simp only [Act.put, u1, u2, u3])
    refine wpAnyH_ready (rs := [3]) (by kernel_rfl) (by simp) ?_
    refine AllReadyH.cons rfl (fun K hK => ?_) (AllReadyH.nil)
    go_simp
    refine hK.out _ _ trivial (fun hHeld => ?_)
    clear hK K hHeld
    (try simp only [Act.put, u1, u2, u3])
    refine tk 4 ⟨some 33, .indexAddr 27 (.tmp 32) (.const (Value.int IntKind.i64 0)), 0, "l07_deltas.go:101", #[⟨3, .data⟩], none⟩ ?_
    (try simp only [Act.put, u1, u2, u3])
    refine wpAnyH_ready (rs := [5]) (by kernel_rfl) (by simp) ?_
    refine AllReadyH.cons rfl (fun K hK => ?_) (AllReadyH.nil)
    go_simp
    refine hK.out _ _ trivial (fun hHeld => ?_)
    clear hK K hHeld
    (try simp only [Act.put, u1, u2, u3])
    refine wpAnyH_ready (rs := [6]) (by kernel_rfl) (by simp) ?_
    refine AllReadyH.cons rfl (fun K hK => ?_) (AllReadyH.nil)
    go_simp
    refine hK.out _ _ trivial (fun hHeld => ?_)
    clear hK K hHeld
    (try simp only [Act.put, u1, u2, u3])
    refine wpAnyH_ready (rs := [7]) (by kernel_rfl) (by simp) ?_
    refine AllReadyH.cons rfl (fun K hK => ?_) (AllReadyH.nil)
    rw [if_pos (by rfl)]
    refine opwpApp _ _ _ rfl _ _ rfl rfl hrun ?_
    refine hK.out _ _ trivial (fun hHeld => ?_)
    clear hK K hHeld
    (try simp only [Act.put, u1, u2, u3])
    refine tk 8 ⟨some 37, .fieldAddr 29 (.tmp 5) 1, 0, "l07_deltas.go:101", #[⟨0, .phase⟩, ⟨1, .phase⟩, ⟨2, .phase⟩, ⟨3, .phase⟩, ⟨4, .phase⟩, ⟨5, .phase⟩, ⟨6, .phase⟩, ⟨7, .phase⟩], none⟩ ?_
    (try simp only [Act.put, u1, u2, u3])
    refine wpAnyH_ready (rs := [9]) (by kernel_rfl) (by simp) ?_
    refine AllReadyH.cons rfl (fun K hK => ?_) (AllReadyH.nil)
    go_simp
    refine hK.out _ _ trivial (fun hHeld => ?_)
    clear hK K hHeld
    (try simp only [Act.put, u1, u2, u3])
    refine wpAnyH_done (by kernel_rfl) ?_ _
    go_wp2
    exact hKt _ _ _ _ _ _ _ _ _ _ _ _ _ _ _ _ _ _ _ _ _ _ _ _ _ _ _ _ _ _ _ _ _ _ _ _ _ _ _ _ _ _ _ _ _ _ _ _ hlv (by omega) (items_snoc HIt.out (by rw [← hx]; exact HIt.out 0 h0)) HDf HPf HIf HOf
   ·skip
    go_simp
    refine hK.out _ _ trivial (fun hHeld => ?_)
    clear hK K hHeld
    (try simp only [Act.put, u1, u2, u3])
    refine tk 4 ⟨some 33, .indexAddr 27 (.tmp 32) (.const (Value.int IntKind.i64 0)), 0, "l07_deltas.go:101", #[⟨3, .data⟩], none⟩ ?_
    (try simp only [Act.put, u1, u2, u3])
    refine wpAnyH_ready (rs := [1, 5]) (by kernel_rfl) (by simp) ?_
    refine AllReadyH.cons rfl (fun K hK => ?_) (AllReadyH.cons rfl (fun K hK => ?_) (AllReadyH.nil))
    ·skip
     go_simp
     refine hK.out _ _ trivial (fun hHeld => ?_)
     clear hK K hHeld
     (try simp only [Act.put, u1, u2, u3])
     refine wpAnyH_ready (rs := [5]) (by kernel_rfl) (by simp) ?_
     refine AllReadyH.cons rfl (fun K hK => ?_) (AllReadyH.nil)
     go_simp
     refine hK.out _ _ trivial (fun hHeld => ?_)
     clear hK K hHeld
     (try simp only [Act.put, u1, u2, u3])
     refine wpAnyH_ready (rs := [6]) (by kernel_rfl) (by simp) ?_
     refine AllReadyH.cons rfl (fun K hK => ?_) (AllReadyH.nil)
     go_simp
     refine hK.out _ _ trivial (fun hHeld => ?_)
     clear hK K hHeld
     (try simp only [Act.put, u1, u2, u3])
     refine wpAnyH_ready (rs := [7]) (by kernel_rfl) (by simp) ?_
     refine AllReadyH.cons rfl (fun K hK => ?_) (AllReadyH.nil)
     rw [if_pos (by rfl)]
     refine opwpApp _ _ _ rfl _ _ rfl rfl hrun ?_
     refine hK.out _ _ trivial (fun hHeld => ?_)
     clear hK K hHeld
     (try simp only [Act.put, u1, u2, u3])
     refine tk 8 ⟨some 37, .fieldAddr 29 (.tmp 5) 1, 0, "l07_deltas.go:101", #[⟨0, .phase⟩, ⟨1, .phase⟩, ⟨2, .phase⟩, ⟨3, .phase⟩, ⟨4, .phase⟩, ⟨5, .phase⟩, ⟨6, .phase⟩, ⟨7, .phase⟩], none⟩ ?_
     (try simp only [Act.put, u1, u2, u3])
     refine wpAnyH_ready (rs := [9]) (by kernel_rfl) (by simp) ?_
     refine AllReadyH.cons rfl (fun K hK => ?_) (AllReadyH.nil)
     go_simp
     refine hK.out _ _ trivial (fun hHeld => ?_)
     clear hK K hHeld
     (try simp only [Act.put, u1, u2, u3])
     refine wpAnyH_done (by kernel_rfl) ?_ _
     go_wp2
     exact hKt _ _ _ _ _ _ _ _ _ _ _ _ _ _ _ _ _ _ _ _ _ _ _ _ _ _ _ _ _ _ _ _ _ _ _ _ _ _ _ _ _ _ _ _ _ _ _ _ hlv (by omega) (items_snoc HIt.out (by rw [← hx]; exact HIt.out 0 h0)) HDf HPf HIf HOf
    ·skip
     go_simp
     refine hK.out _ _ trivial (fun hHeld => ?_)
     clear hK K hHeld
     (try simp only [Act.put, u1, u2, u3])
     refine wpAnyH_ready (rs := [1, 6]) (by kernel_rfl) (by simp) ?_
     refine AllReadyH.cons rfl (fun K hK => ?_) (AllReadyH.cons rfl (fun K hK => ?_) (AllReadyH.nil))
     ·skip
      go_simp
      refine hK.out _ _ trivial (fun hHeld => ?_)
      clear hK K hHeld
      (try simp only [Act.put, u1, u2, u3])
      refine wpAnyH_ready (rs := [6]) (by kernel_rfl) (by simp) ?_
      refine AllReadyH.cons rfl (fun K hK => ?_) (AllReadyH.nil)
      go_simp
      refine hK.out _ _ trivial (fun hHeld => ?_)
      clear hK K hHeld
      (try simp only [Act.put, u1, u2, u3])
      refine wpAnyH_ready (rs := [7]) (by kernel_rfl) (by simp) ?_
      refine AllReadyH.cons rfl (fun K hK => ?_) (AllReadyH.nil)
      rw [if_pos (by rfl)]
      refine opwpApp _ _ _ rfl _ _ rfl rfl hrun ?_
      refine hK.out _ _ trivial (fun hHeld => ?_)
      clear hK K hHeld
      (try simp only [Act.put, u1, u2, u3])
      refine tk 8 ⟨some 37, .fieldAddr 29 (.tmp 5) 1, 0, "l07_deltas.go:101", #[⟨0, .phase⟩, ⟨1, .phase⟩, ⟨2, .phase⟩, ⟨3, .phase⟩, ⟨4, .phase⟩, ⟨5, .phase⟩, ⟨6, .phase⟩, ⟨7, .phase⟩], none⟩ ?_
      (try simp only [Act.put, u1, u2, u3])
      refine wpAnyH_ready (rs := [9]) (by kernel_rfl) (by simp) ?_
      refine AllReadyH.cons rfl (fun K hK => ?_) (AllReadyH.nil)
      go_simp
      refine hK.out _ _ trivial (fun hHeld => ?_)
      clear hK K hHeld
      (try simp only [Act.put, u1, u2, u3])
      refine wpAnyH_done (by kernel_rfl) ?_ _
      go_wp2
      exact hKt _ _ _ _ _ _ _ _ _ _ _ _ _ _ _ _ _ _ _ _ _ _ _ _ _ _ _ _ _ _ _ _ _ _ _ _ _ _ _ _ _ _ _ _ _ _ _ _ hlv (by omega) (items_snoc HIt.out (by rw [← hx]; exact HIt.out 0 h0)) HDf HPf HIf HOf
     ·skip
      go_simp
      refine hK.out _ _ trivial (fun hHeld => ?_)
      clear hK K hHeld
      (try simp only [Act.put, u1, u2, u3])
      refine wpAnyH_ready (rs := [1]) (by kernel_rfl) (by simp) ?_
      refine AllReadyH.cons rfl (fun K hK => ?_) (AllReadyH.nil)
      go_simp
      refine hK.out _ _ trivial (fun hHeld => ?_)
      clear hK K hHeld
      (try simp only [Act.put, u1, u2, u3])
      refine wpAnyH_ready (rs := [7]) (by kernel_rfl) (by simp) ?_
      refine AllReadyH.cons rfl (fun K hK => ?_) (AllReadyH.nil)
      rw [if_pos (by rfl)]
      refine opwpApp _ _ _ rfl _ _ rfl rfl hrun ?_
      refine hK.out _ _ trivial (fun hHeld => ?_)
      clear hK K hHeld
      (try simp only [Act.put, u1, u2, u3])
      refine tk 8 ⟨some 37, .fieldAddr 29 (.tmp 5) 1, 0, "l07_deltas.go:101", #[⟨0, .phase⟩, ⟨1, .phase⟩, ⟨2, .phase⟩, ⟨3, .phase⟩, ⟨4, .phase⟩, ⟨5, .phase⟩, ⟨6, .phase⟩, ⟨7, .phase⟩], none⟩ ?_
      (try simp only [Act.put, u1, u2, u3])
      refine wpAnyH_ready (rs := [9]) (by kernel_rfl) (by simp) ?_
      refine AllReadyH.cons rfl (fun K hK => ?_) (AllReadyH.nil)
      go_simp
      refine hK.out _ _ trivial (fun hHeld => ?_)
      clear hK K hHeld
      (try simp only [Act.put, u1, u2, u3])
      refine wpAnyH_done (by kernel_rfl) ?_ _
      go_wp2
      exact hKt _ _ _ _ _ _ _ _ _ _ _ _ _ _ _ _ _ _ _ _ _ _ _ _ _ _ _ _ _ _ _ _ _ _ _ _ _ _ _ _ _ _ _ _ _ _ _ _ hlv (by omega) (items_snoc HIt.out (by rw [← hx]; exact HIt.out 0 h0)) HDf HPf HIf HOf
  by_cases h7 : v = 7
  ·subst h7
   obtain ⟨c0, c1⟩ := pair_cells HP4.out
   by_cases h0 : 0 < vs.length
   rotate_left
   ·have hz : ¬ ((0 : Int) < (vs.length : Int)) := by omega
    go_wp2
    exact hKt _ _ _ _ _ _ _ _ _ _ _ _ _ _ _ _ _ _ _ _ _ _ _ _ _ _ _ _ _ _ _ _ _ _ _ _ _ _ _ _ _ _ _ _ _ _ _ _ hlv (by omega) HIt.out HD4 HP4 HI4 HO4
   have hz : (0 : Int) < (vs.length : Int) := by omega
   obtain ⟨l1, h1, a1, a2, a3, hov⟩ := HQ4.out.vec
   obtain ⟨vb, cur, hpe, q1, q2, q3, q4⟩ := hov.2 h0
   subst hpe
   go_upto_region 10 with fail
   obtain ⟨z0, hz0e⟩ : ∃ z0, w4.drew = z0 := ⟨_, rfl⟩
   have g0 : Below w4.heap.size w4 z0 := by rw [← hz0e]; exact ⟨rfl, rfl, rfl, Nat.le_refl _, fun _ _ => rfl⟩
   have b0 := (g0.block _ (lt_of_row HP4.out)).trans HP4.out
   have HQz : Hid (PartO z0 w1.heap.size P (some ⟨vb, 0, none⟩) vs po pk os) := by
    obtain ⟨base, t1, t2⟩ := HQ4.out.row
    exact ⟨⟨l1, h1, a1, a2, by have := g0.size; omega, hov.below g0 (by omega)⟩, ⟨base, t1, own_row_kept t2 g0⟩, HQ4.out.far⟩
   have HDz : Hid (D1 w z0 B g a len cap #[.slice none 0 0, .slice none 0 0]) := by rw [← hz0e]; exact HD4.out.grow (row := none) ⟨rfl, rfl, rfl, Nat.le_refl _, fun _ _ _ => rfl⟩ (fun k hk => by cases hk)
   have hov0 := hov.below g0 (by omega)
   have hs0 := g0.size
   clear hov HQ4 HI4 HO4 q3 q4 c0 c1
   have Sz0 : z0.cell? ⟨P, 0, none⟩ = some (.slice (some ⟨vb, 0, none⟩) vs.length pc) := (pair_cells b0).1
   go_wp2_with fail
   refine wp_region_held_drew (S := fun w' => w'.cell? ⟨P, 0, none⟩ = some (.slice (some ⟨vb, 0, none⟩) vs.length pc)) (by kernel_rfl) (by rw [hz0e]; exact Sz0) (fun hHeld => ?_)
   rw [hz0e]
   clear hHeld hz0e g0
   refine tk 0 ⟨some 44, .fieldAddr 29 (.tmp 5) 0, 0, "l07_deltas.go:105", #[], none⟩ ?_
   (try simp only [Act.put, u1, u2, u3])
   refine tk 1 ⟨some 45, .load 22 (.tmp 44), 22, "l07_deltas.go:105", #[⟨0, .data⟩], none⟩ ?_
   (try simp only [Act.put, u1, u2, u3])
   refine tk 2 ⟨some 46, .move (.tmp 3), 84, "l07_deltas.go:105", #[], none⟩ ?_
   (try simp only [Act.put, u1, u2, u3])
   refine rk 3 rfl (fun K hK => ?_)
   go_simp
   go_at_call 75
   refine (rdOff z0 B g a len cap HDz.out.rd 0 3 (by omega) (by omega) (by omega)).mono ?_
   rintro e z1 ⟨d, rfl, hg, hr⟩
   have HDy := Lib.hid (HDz.out.step hg hr)
   have HQy := Lib.hid (HQz.out.step hg hg1)
   have b1 := (hg.block _ (lt_of_row b0) (by intro e; injection e with e; omega)).trans b0
   have hov1 : Own z1 l1 h1 (some ⟨vb, 0, none⟩) vs.length vs := hov0.kept fun j t1 t2 => hg.block j (by omega) (by intro e; injection e with e; omega)
   have hs1 := hg.size
   clear hg hr HDz HQz hov0
   have Sz1 : z1.cell? ⟨P, 0, none⟩ = some (.slice (some ⟨vb, 0, none⟩) vs.length pc) := (pair_cells b1).1
   refine hK.out _ _ Sz1 (fun hHeld => ?_)
   clear hK K hHeld
   (try simp only [Act.put, u1, u2, u3])
   obtain ⟨vb2, cur, hpe, t1, t2, t3, t4⟩ := hov1.2 h0
   injection hpe with hpe
   injection hpe with hpe
   subst hpe
   have hcell : z1.cell? ⟨vb, 0, none⟩ = some (.int .i64 (vs.getD 0 0)) := by rw [cell_of_row _ _ _ _ _ _ t3]; exact t4 0 h0
   have hfz : z1.frozen? ⟨vb, 0, none⟩ = false := frozen_of_row _ _ _ _ _ t3
   have hpv : P ≠ vb := by omega
   obtain ⟨base, r1, r2⟩ := HQy.out.row
   have fv := row_type r2 t3 (by decide)
   have b2 : (z1.setCell ⟨vb, 0, none⟩ (.int .i64 d)).heap[P]? = _ := (heap_setCell_other _ _ _ _ hpv).trans b1
   have hsw : (z1.setCell ⟨vb, 0, none⟩ (.int .i64 d)).heap.size = z1.heap.size := by simp [World.setCell]
   have HDf : Hid (D1 w (z1.setCell ⟨vb, 0, none⟩ (.int .i64 d)) B g a len cap #[.slice none 0 0, .slice none 0 0]) := HDy.out.grow (row := some vb) ⟨rfl, rfl, rfl, by simp [World.setCell], fun j _ hne => heap_setCell_other _ _ _ _ (fun e => hne (by rw [e]))⟩ (fun k hk => by injection hk with hk; omega)
   have HIf : Hid (IntsFar (z1.setCell ⟨vb, 0, none⟩ (.int .i64 d)) w1.heap.size P (some ⟨vb, 0, none⟩) vs.length (vs.set 0 d)) := far_ints (own_set d hov1 h0) a1 a2 (by rw [hsw]; omega)
   have HOf : Hid (OpsFar (z1.setCell ⟨vb, 0, none⟩ (.int .i64 d)) w1.heap.size P po os.length os) := row_far rfl r1 (row_put r2 fv) HQy.out.far
   have HPf := Lib.hid b2
   have Szf : (z1.setCell ⟨vb, 0, none⟩ (.int .i64 d)).cell? ⟨P, 0, none⟩ = some (.slice (some ⟨vb, 0, none⟩) vs.length pc) := (pair_cells b2).1
   refine tk 4 ⟨some 48, .indexAddr 22 (.tmp 45) (.const (Value.int IntKind.i64 0)), 0, "l07_deltas.go:105", #[⟨1, .data⟩, ⟨0, .phase⟩, ⟨1, .phase⟩, ⟨2, .phase⟩, ⟨3, .phase⟩], none⟩ ?_
   (try simp only [Act.put, u1, u2, u3])
   refine rk 5 rfl (fun K hK => ?_)
   go_simp
   refine hK.out _ _ Szf (fun hHeld4 => ?_)
   clear hK K
   (try simp only [Act.put, u1, u2, u3])
   refine wpAnyH_done (by kernel_rfl) ?_ _
   go_wp2
   exact hKt _ _ _ _ _ _ _ _ _ _ _ _ _ _ _ _ _ _ _ _ _ _ _ _ _ _ _ _ _ _ _ _ _ _ _ _ _ _ _ _ _ _ _ _ _ _ _ _ hlv (by omega) HIt.out HDf HPf HIf HOf
  have h6i : ¬ ((v : Int) = 6) := by omega
  have h7i : ¬ ((v : Int) = 7) := by omega
  go_wp2
  exact hKt _ _ _ _ _ _ _ _ _ _ _ _ _ _ _ _ _ _ _ _ _ _ _ _ _ _ _ _ _ _ _ _ _ _ _ _ _ _ _ _ _ _ _ _ _ _ _ _ hlv (by omega) HIt.out HD4 HP4 HI4 HO4
 obtain ⟨z0, hz0e⟩ : ∃ z0, w2.drew = z0 := ⟨_, rfl⟩
 have g0 : Below w2.heap.size w2 z0 := by rw [← hz0e]; exact ⟨rfl, rfl, rfl, Nat.le_refl _, fun _ _ => rfl⟩
 have HLz0 := Lib.hid (HL2.out.below g0)
 have Sz0 : z0.cell? ⟨q, 0, none⟩ = some (.slice (cAt l 0).va 4 (cAt l 0).vc) ∧ z0.cell? ⟨q, 1, none⟩ = some (.slice (cAt l 0).oa (cAt l 0).no (cAt l 0).oc) ∧ z0.cell? ⟨q, 2, none⟩ = some (.slice (cAt l 1).va 4 (cAt l 1).vc) ∧ z0.cell? ⟨q, 3, none⟩ = some (.slice (cAt l 1).oa (cAt l 1).no (cAt l 1).oc) := ⟨(HLz0.out.cell 0 (by omega)).1, (HLz0.out.cell 0 (by omega)).2, (HLz0.out.cell 1 (by omega)).1, (HLz0.out.cell 1 (by omega)).2⟩
 obtain ⟨xs, l0, ex, a1, a2, a3, a4, a5, a6⟩ := CrtC.weak (HLz0.out.row.crt 0 (by rw [HLz0.out.num]; omega))
 obtain ⟨ys, m0, ey, b1, b2, b3, b4, b5, b6⟩ := CrtC.weak (HLz0.out.row.crt 1 (by rw [HLz0.out.num]; omega))
 have HA := Lib.hid a1.ints
 have HB := Lib.hid b1.ints
 have HAo : Hid (Ops z0 z0.heap.size (cAt l 0).oa (cAt l 0).no l0) := by show Ops _ _ _ _ _; rw [ex]; exact a2.ops
 have HBo : Hid (Ops z0 z0.heap.size (cAt l 1).oa (cAt l 1).no m0) := by show Ops _ _ _ _ _; rw [ey]; exact b2.ops
 have HIa : Hid (∀ i, i < (cAt l 0).no → (atOp l0 i).item.size ≤ 1048576) := fun i hi => Nat.le_trans (a5 i (by omega)) (by omega)
 have HIb : Hid (∀ i, i < (cAt l 1).no → (atOp m0 i).item.size ≤ 1048576) := fun i hi => Nat.le_trans (b5 i (by omega)) (by omega)
 obtain ⟨R, hR⟩ : ∃ R, mergedB xs l0 ys m0 = R := ⟨_, rfl⟩
 obtain ⟨vs, hvs⟩ : ∃ vs, delVs xs R = vs := ⟨_, rfl⟩
 obtain ⟨os, hos⟩ : ∃ os, delOs l0 m0 R = os := ⟨_, rfl⟩
 have HR := Lib.hid hR
 have HVs := Lib.hid hvs
 have HOs := Lib.hid hos
 have hlv : vs.length ≤ 4 := by rw [← hvs]; exact delVs_len (Nat.le_of_eq a1.1) R
 have hlo : os.length ≤ 400 := by rw [← hos]; exact delOs_len a6 R
 have HIt : Hid (∀ i, i < os.length → (atOp os i).item.size ≤ 8) := by show ∀ i, _; rw [← hos]; exact delOs_items R a5
 have hna : (cAt l 0).no ≤ 400 := by omega
 have hnb : (cAt l 1).no ≤ 400 := by omega
 clear hR hvs hos a1 a2 a3 a4 a5 a6 b1 b2 b3 b4 b5 b6 ex ey
 refine wp_region_held_drew (S := fun w' => w'.cell? ⟨q, 0, none⟩ = some (.slice (cAt l 0).va 4 (cAt l 0).vc) ∧ w'.cell? ⟨q, 1, none⟩ = some (.slice (cAt l 0).oa (cAt l 0).no (cAt l 0).oc) ∧ w'.cell? ⟨q, 2, none⟩ = some (.slice (cAt l 1).va 4 (cAt l 1).vc) ∧ w'.cell? ⟨q, 3, none⟩ = some (.slice (cAt l 1).oa (cAt l 1).no (cAt l 1).oc)) (by kernel_rfl) (by rw [hz0e]; exact Sz0) (fun hHeld => ?_)
 rw [hz0e]
 clear hHeld hz0e
 refine tk 0 ⟨some 12, .move (.tmp 4), 86, "l07_deltas.go:97", #[], none⟩ ?_
 (try simp only [Act.put, u1, u2, u3])
 refine tk 1 ⟨some 13, .indexAddr 86 (.tmp 12) (.const (Value.int IntKind.i64 0)), 0, "l07_deltas.go:97", #[⟨0, .data⟩], none⟩ ?_
 (try simp only [Act.put, u1, u2, u3])
 refine tk 2 ⟨some 14, .load 29 (.tmp 13), 29, "l07_deltas.go:97", #[⟨1, .data⟩], none⟩ ?_
 (try simp only [Act.put, u1, u2, u3])
 refine tk 3 ⟨some 15, .move (.tmp 4), 86, "l07_deltas.go:97", #[], none⟩ ?_
 (try simp only [Act.put, u1, u2, u3])
 refine tk 4 ⟨some 16, .indexAddr 86 (.tmp 15) (.const (Value.int IntKind.i64 1)), 0, "l07_deltas.go:97", #[⟨3, .data⟩], none⟩ ?_
 (try simp only [Act.put, u1, u2, u3])
 refine tk 5 ⟨some 17, .load 29 (.tmp 16), 29, "l07_deltas.go:97", #[⟨4, .data⟩], none⟩ ?_
 (try simp only [Act.put, u1, u2, u3])
 refine wpAnyH_ready (rs := [6, 10]) (by kernel_rfl) (by simp) ?_
 refine AllReadyH.cons rfl (fun K hK => ?_) (AllReadyH.cons rfl (fun K hK => ?_) AllReadyH.nil)
 ·skip
  go_simp
  go_at_call 22
  have hc := specDeltaK z0 z0.heap.size (cAt l 0).va (cAt l 0).oa (cAt l 1).va (cAt l 1).oa 4 (cAt l 0).vc (cAt l 0).no (cAt l 0).oc 4 (cAt l 1).vc (cAt l 1).no (cAt l 1).oc xs l0 ys m0 HA.out HAo.out HB.out HBo.out (by have := g0.size; omega) (by omega) (by omega) HIa.out (by omega) (by omega) HIb.out
  rw [HR.out, HVs.out, HOs.out] at hc
  refine hc.mono ?_
  clear hc
  rintro e z1 ⟨pv, pc, po, pk, rfl, hov, hop, tz1, hcp⟩
  have Sz1 : z1.cell? ⟨q, 0, none⟩ = some (.slice (cAt l 0).va 4 (cAt l 0).vc) ∧ z1.cell? ⟨q, 1, none⟩ = some (.slice (cAt l 0).oa (cAt l 0).no (cAt l 0).oc) ∧ z1.cell? ⟨q, 2, none⟩ = some (.slice (cAt l 1).va 4 (cAt l 1).vc) ∧ z1.cell? ⟨q, 3, none⟩ = some (.slice (cAt l 1).oa (cAt l 1).no (cAt l 1).oc) := ⟨(tz1.cell (block_lt_of_cell Sz0.1)).trans Sz0.1, (tz1.cell (block_lt_of_cell Sz0.2.1)).trans Sz0.2.1, (tz1.cell (block_lt_of_cell Sz0.2.2.1)).trans Sz0.2.2.1, (tz1.cell (block_lt_of_cell Sz0.2.2.2)).trans Sz0.2.2.2⟩
  have HLz1 := Lib.hid (HLz0.out.below tz1)
  refine hK.out _ _ Sz1 (fun hHeld4 => ?_)
  clear hK K hHeld4
  (try simp only [Act.put, u1, u2, u3])
  refine tk 7 ⟨some 11, .move (.tmp 18), 30, "l07_deltas.go:97", #[⟨6, .data⟩], none⟩ ?_
  (try simp only [Act.put, u1, u2, u3])
  refine tk 8 ⟨some 19, .extract (.tmp 11) 0, 29, "l07_deltas.go:97", #[⟨7, .data⟩], none⟩ ?_
  (try simp only [Act.put, u1, u2, u3])
  refine tk 9 ⟨some 20, .extract (.tmp 11) 1, 4, "l07_deltas.go:97", #[⟨7, .data⟩, { on := 11, ground := Ground.gcOnly Departure.lateStores }], none⟩ ?_
  (try simp only [Act.put, u1, u2, u3])
  refine rk 10 rfl (fun K hK => ?_)
  have talloc : Below z1.heap.size z1 (z1.alloc (.cells #[.slice none 0 0, .slice none 0 0] 29)) := bl
  have hboxn := Lib.hid (boxAt (Below.refl _ (z1.alloc (.cells #[.slice none 0 0, .slice none 0 0] 29))))
  have hxsn : z1.heap.size < (z1.alloc (.cells #[.slice none 0 0, .slice none 0 0] 29)).heap.size := lt_of_row hboxn.out
  have Salloc : (z1.alloc (.cells #[.slice none 0 0, .slice none 0 0] 29)).cell? ⟨q, 0, none⟩ = some (.slice (cAt l 0).va 4 (cAt l 0).vc) ∧ (z1.alloc (.cells #[.slice none 0 0, .slice none 0 0] 29)).cell? ⟨q, 1, none⟩ = some (.slice (cAt l 0).oa (cAt l 0).no (cAt l 0).oc) ∧ (z1.alloc (.cells #[.slice none 0 0, .slice none 0 0] 29)).cell? ⟨q, 2, none⟩ = some (.slice (cAt l 1).va 4 (cAt l 1).vc) ∧ (z1.alloc (.cells #[.slice none 0 0, .slice none 0 0] 29)).cell? ⟨q, 3, none⟩ = some (.slice (cAt l 1).oa (cAt l 1).no (cAt l 1).oc) := ⟨(talloc.cell (block_lt_of_cell Sz1.1)).trans Sz1.1, (talloc.cell (block_lt_of_cell Sz1.2.1)).trans Sz1.2.1, (talloc.cell (block_lt_of_cell Sz1.2.2.1)).trans Sz1.2.2.1, (talloc.cell (block_lt_of_cell Sz1.2.2.2)).trans Sz1.2.2.2⟩
  have HLalloc := Lib.hid (HLz1.out.below talloc)
  go_simp
  refine hK.out _ _ Salloc (fun hHeldA => ?_)
  clear hK K hHeldA
  (try simp only [Act.put, u1, u2, u3])
  generalize z1.alloc (.cells #[.slice none 0 0, .slice none 0 0] 29) = z2 at talloc hboxn hxsn Salloc HLalloc ⊢
  have tz2 := talloc
  have hboxz2 := hboxn
  have hxsz2 := hxsn
  have Sz2 := Salloc
  have HLz2 := HLalloc
  clear talloc hboxn hxsn Salloc HLalloc
  have hov := hov.below tz2 (Nat.le_refl _)
  have hop := hop.below tz2 (Nat.le_refl _)
  have q1 := tz1.size
  have q2 := tz2.size
  obtain ⟨hcp1, base, hbs, hro1⟩ := hcp
  have hro := own_row_kept hro1 tz2
  have q0 := g0.size
  have hpq : z1.heap.size ≠ q := by omega
  have hpw : w1.heap.size ≤ z1.heap.size := by omega
  obtain ⟨d0, d1⟩ := pair_cells hboxz2.out
  obtain ⟨f0, f1⟩ := pair_frozen hboxz2.out
  have hwz := pair_size z2 z1.heap.size (.slice pv vs.length pc) (.slice po os.length pk)
  have HLf := Lib.hid (HLz2.out.box (.slice pv vs.length pc) (.slice po os.length pk) hboxz2.out hpw hpq)
  have HPf : Hid (((z2.setCell ⟨z1.heap.size, 0, none⟩ (.slice pv vs.length pc)).setCell ⟨z1.heap.size, 1, none⟩ (.slice po os.length pk)).heap[z1.heap.size]? = some (.cells #[.slice pv vs.length pc, .slice po os.length pk] 29 (0, 0))) := pair_set _ _ hboxz2.out
  have hneR : ∀ j, (Value.slice po os.length pk).ownBlock = some j → j ≠ z1.heap.size := fun j hj => by have := (hro1.lt j hj).2; omega
  have HQf : Hid (PartO ((z2.setCell ⟨z1.heap.size, 0, none⟩ (.slice pv vs.length pc)).setCell ⟨z1.heap.size, 1, none⟩ (.slice po os.length pk)) w1.heap.size z1.heap.size pv vs po pk os) := ⟨⟨z0.heap.size, z1.heap.size, by omega, by omega, by rw [hwz]; omega, hov.kept fun j h1 h2 => pair_other _ _ (by omega)⟩, ⟨base, by omega, row_put (row_put hro hneR) hneR⟩, hneR⟩
  have Szf : ((z2.setCell ⟨z1.heap.size, 0, none⟩ (.slice pv vs.length pc)).setCell ⟨z1.heap.size, 1, none⟩ (.slice po os.length pk)).cell? ⟨q, 0, none⟩ = some (.slice (cAt l 0).va 4 (cAt l 0).vc) ∧ ((z2.setCell ⟨z1.heap.size, 0, none⟩ (.slice pv vs.length pc)).setCell ⟨z1.heap.size, 1, none⟩ (.slice po os.length pk)).cell? ⟨q, 1, none⟩ = some (.slice (cAt l 0).oa (cAt l 0).no (cAt l 0).oc) ∧ ((z2.setCell ⟨z1.heap.size, 0, none⟩ (.slice pv vs.length pc)).setCell ⟨z1.heap.size, 1, none⟩ (.slice po os.length pk)).cell? ⟨q, 2, none⟩ = some (.slice (cAt l 1).va 4 (cAt l 1).vc) ∧ ((z2.setCell ⟨z1.heap.size, 0, none⟩ (.slice pv vs.length pc)).setCell ⟨z1.heap.size, 1, none⟩ (.slice po os.length pk)).cell? ⟨q, 3, none⟩ = some (.slice (cAt l 1).oa (cAt l 1).no (cAt l 1).oc) := ⟨(HLf.out.cell 0 (by omega)).1, (HLf.out.cell 0 (by omega)).2, (HLf.out.cell 1 (by omega)).1, (HLf.out.cell 1 (by omega)).2⟩
  refine rk 11 rfl (fun K hK => ?_)
  go_simp
  refine hK.out _ _ Szf (fun hHeldB => ?_)
  clear hK K hHeldB d0 d1 f0 f1
  (try simp only [Act.put, u1, u2, u3])
  refine tk 12 ⟨some 6, .assign (.tmp 20), 4, "l07_deltas.go:97", #[⟨9, .data⟩, ⟨11, .chain⟩, ⟨0, .phase⟩, ⟨1, .phase⟩, ⟨2, .phase⟩, ⟨3, .phase⟩, ⟨4, .phase⟩, ⟨5, .phase⟩, ⟨6, .phase⟩, ⟨7, .phase⟩, ⟨8, .phase⟩, ⟨9, .phase⟩, ⟨10, .phase⟩, ⟨11, .phase⟩], none⟩ ?_
  (try simp only [Act.put, u1, u2, u3])
  refine wpAnyH_done (by kernel_rfl) ?_ _
  exact hKall _ pv pc po pk vs os _ _ _ _ _ _ _ _ _ _ _ _ hlv hlo hcp1 HIt HLf HPf HQf hpw hpq
 ·skip
  have talloc : Below z0.heap.size z0 (z0.alloc (.cells #[.slice none 0 0, .slice none 0 0] 29)) := bl
  have hboxn := Lib.hid (boxAt (Below.refl _ (z0.alloc (.cells #[.slice none 0 0, .slice none 0 0] 29))))
  have hxsn : z0.heap.size < (z0.alloc (.cells #[.slice none 0 0, .slice none 0 0] 29)).heap.size := lt_of_row hboxn.out
  have Salloc : (z0.alloc (.cells #[.slice none 0 0, .slice none 0 0] 29)).cell? ⟨q, 0, none⟩ = some (.slice (cAt l 0).va 4 (cAt l 0).vc) ∧ (z0.alloc (.cells #[.slice none 0 0, .slice none 0 0] 29)).cell? ⟨q, 1, none⟩ = some (.slice (cAt l 0).oa (cAt l 0).no (cAt l 0).oc) ∧ (z0.alloc (.cells #[.slice none 0 0, .slice none 0 0] 29)).cell? ⟨q, 2, none⟩ = some (.slice (cAt l 1).va 4 (cAt l 1).vc) ∧ (z0.alloc (.cells #[.slice none 0 0, .slice none 0 0] 29)).cell? ⟨q, 3, none⟩ = some (.slice (cAt l 1).oa (cAt l 1).no (cAt l 1).oc) := ⟨(talloc.cell (block_lt_of_cell Sz0.1)).trans Sz0.1, (talloc.cell (block_lt_of_cell Sz0.2.1)).trans Sz0.2.1, (talloc.cell (block_lt_of_cell Sz0.2.2.1)).trans Sz0.2.2.1, (talloc.cell (block_lt_of_cell Sz0.2.2.2)).trans Sz0.2.2.2⟩
  have HLalloc := Lib.hid (HLz0.out.below talloc)
  go_simp
  refine hK.out _ _ Salloc (fun hHeldA => ?_)
  clear hK K hHeldA
  (try simp only [Act.put, u1, u2, u3])
  generalize z0.alloc (.cells #[.slice none 0 0, .slice none 0 0] 29) = z1 at talloc hboxn hxsn Salloc HLalloc ⊢
  have tz1 := talloc
  have hboxz1 := hboxn
  have hxsz1 := hxsn
  have Sz1 := Salloc
  have HLz1 := HLalloc
  clear talloc hboxn hxsn Salloc HLalloc
  refine rk 6 rfl (fun K hK => ?_)
  go_simp
  go_at_call 22
  have hc := specDeltaK z1 z0.heap.size (cAt l 0).va (cAt l 0).oa (cAt l 1).va (cAt l 1).oa 4 (cAt l 0).vc (cAt l 0).no (cAt l 0).oc 4 (cAt l 1).vc (cAt l 1).no (cAt l 1).oc xs l0 ys m0 (HA.out.below tz1 (Nat.le_refl _)) (HAo.out.below tz1 (Nat.le_refl _)) (HB.out.below tz1 (Nat.le_refl _)) (HBo.out.below tz1 (Nat.le_refl _)) (by have := tz1.size; omega) (by omega) (by omega) HIa.out (by omega) (by omega) HIb.out
  rw [HR.out, HVs.out, HOs.out] at hc
  refine hc.mono ?_
  clear hc
  rintro e z2 ⟨pv, pc, po, pk, rfl, hov, hop, tz2, hcp⟩
  have Sz2 : z2.cell? ⟨q, 0, none⟩ = some (.slice (cAt l 0).va 4 (cAt l 0).vc) ∧ z2.cell? ⟨q, 1, none⟩ = some (.slice (cAt l 0).oa (cAt l 0).no (cAt l 0).oc) ∧ z2.cell? ⟨q, 2, none⟩ = some (.slice (cAt l 1).va 4 (cAt l 1).vc) ∧ z2.cell? ⟨q, 3, none⟩ = some (.slice (cAt l 1).oa (cAt l 1).no (cAt l 1).oc) := ⟨(tz2.cell (block_lt_of_cell Sz1.1)).trans Sz1.1, (tz2.cell (block_lt_of_cell Sz1.2.1)).trans Sz1.2.1, (tz2.cell (block_lt_of_cell Sz1.2.2.1)).trans Sz1.2.2.1, (tz2.cell (block_lt_of_cell Sz1.2.2.2)).trans Sz1.2.2.2⟩
  have HLz2 := Lib.hid (HLz1.out.below tz2)
  refine hK.out _ _ Sz2 (fun hHeld4 => ?_)
  clear hK K hHeld4
  (try simp only [Act.put, u1, u2, u3])
  refine tk 7 ⟨some 11, .move (.tmp 18), 30, "l07_deltas.go:97", #[⟨6, .data⟩], none⟩ ?_
  (try simp only [Act.put, u1, u2, u3])
  refine tk 8 ⟨some 19, .extract (.tmp 11) 0, 29, "l07_deltas.go:97", #[⟨7, .data⟩], none⟩ ?_
  (try simp only [Act.put, u1, u2, u3])
  refine tk 9 ⟨some 20, .extract (.tmp 11) 1, 4, "l07_deltas.go:97", #[⟨7, .data⟩, { on := 11, ground := Ground.gcOnly Departure.lateStores }], none⟩ ?_
  (try simp only [Act.put, u1, u2, u3])
  have hboxz2 := Lib.hid ((tz2.block _ hxsz1).trans hboxz1.out)
  have q1 := tz1.size
  have q2 := tz2.size
  obtain ⟨hcp1, base, hbs, hro⟩ := hcp
  have q0 := g0.size
  have hpq : z0.heap.size ≠ q := by omega
  have hpw : w1.heap.size ≤ z0.heap.size := by omega
  obtain ⟨d0, d1⟩ := pair_cells hboxz2.out
  obtain ⟨f0, f1⟩ := pair_frozen hboxz2.out
  have hwz := pair_size z2 z0.heap.size (.slice pv vs.length pc) (.slice po os.length pk)
  have HLf := Lib.hid (HLz2.out.box (.slice pv vs.length pc) (.slice po os.length pk) hboxz2.out hpw hpq)
  have HPf : Hid (((z2.setCell ⟨z0.heap.size, 0, none⟩ (.slice pv vs.length pc)).setCell ⟨z0.heap.size, 1, none⟩ (.slice po os.length pk)).heap[z0.heap.size]? = some (.cells #[.slice pv vs.length pc, .slice po os.length pk] 29 (0, 0))) := pair_set _ _ hboxz2.out
  have hneR : ∀ j, (Value.slice po os.length pk).ownBlock = some j → j ≠ z0.heap.size := fun j hj => by have := (hro.lt j hj).1; omega
  have HQf : Hid (PartO ((z2.setCell ⟨z0.heap.size, 0, none⟩ (.slice pv vs.length pc)).setCell ⟨z0.heap.size, 1, none⟩ (.slice po os.length pk)) w1.heap.size z0.heap.size pv vs po pk os) := ⟨⟨z1.heap.size, z2.heap.size, by omega, by omega, by rw [hwz]; omega, hov.kept fun j h1 h2 => pair_other _ _ (by omega)⟩, ⟨base, by omega, row_put (row_put hro hneR) hneR⟩, hneR⟩
  have Szf : ((z2.setCell ⟨z0.heap.size, 0, none⟩ (.slice pv vs.length pc)).setCell ⟨z0.heap.size, 1, none⟩ (.slice po os.length pk)).cell? ⟨q, 0, none⟩ = some (.slice (cAt l 0).va 4 (cAt l 0).vc) ∧ ((z2.setCell ⟨z0.heap.size, 0, none⟩ (.slice pv vs.length pc)).setCell ⟨z0.heap.size, 1, none⟩ (.slice po os.length pk)).cell? ⟨q, 1, none⟩ = some (.slice (cAt l 0).oa (cAt l 0).no (cAt l 0).oc) ∧ ((z2.setCell ⟨z0.heap.size, 0, none⟩ (.slice pv vs.length pc)).setCell ⟨z0.heap.size, 1, none⟩ (.slice po os.length pk)).cell? ⟨q, 2, none⟩ = some (.slice (cAt l 1).va 4 (cAt l 1).vc) ∧ ((z2.setCell ⟨z0.heap.size, 0, none⟩ (.slice pv vs.length pc)).setCell ⟨z0.heap.size, 1, none⟩ (.slice po os.length pk)).cell? ⟨q, 3, none⟩ = some (.slice (cAt l 1).oa (cAt l 1).no (cAt l 1).oc) := ⟨(HLf.out.cell 0 (by omega)).1, (HLf.out.cell 0 (by omega)).2, (HLf.out.cell 1 (by omega)).1, (HLf.out.cell 1 (by omega)).2⟩
  refine rk 11 rfl (fun K hK => ?_)
  go_simp
  refine hK.out _ _ Szf (fun hHeldB => ?_)
  clear hK K hHeldB d0 d1 f0 f1
  (try simp only [Act.put, u1, u2, u3])
  refine tk 12 ⟨some 6, .assign (.tmp 20), 4, "l07_deltas.go:97", #[⟨9, .data⟩, ⟨11, .chain⟩, ⟨0, .phase⟩, ⟨1, .phase⟩, ⟨2, .phase⟩, ⟨3, .phase⟩, ⟨4, .phase⟩, ⟨5, .phase⟩, ⟨6, .phase⟩, ⟨7, .phase⟩, ⟨8, .phase⟩, ⟨9, .phase⟩, ⟨10, .phase⟩, ⟨11, .phase⟩], none⟩ ?_
  (try simp only [Act.put, u1, u2, u3])
  refine wpAnyH_done (by kernel_rfl) ?_ _
  exact hKall _ pv pc po pk vs os _ _ _ _ _ _ _ _ _ _ _ _ hlv hlo hcp1 HIt HLf HPf HQf hpw hpq
end Go.Proofs.Ytdbdmfaphdjdpaa
