/- Walks and mathematics that several claims share, part 39. -/
import Derived.Test.YtdbdmfaphdjdpaaGt38
import Derived.Test.YtdbdmfaphdjdpaaGt26
import Derived.Test.YtdbdmfaphdjdpaaGt27
import Derived.Test.YtdbdmfaphdjdpaaGt32
import Derived.Test.YtdbdmfaphdjdpaaGt29
import Derived.Test.YtdbdmfaphdjdpaaGt23
import Derived.Deep.Cut
import Derived.Test.YtdbdmfaphdjdpaaGtA
namespace Go.Proofs.Ytdbdmfaphdjdpaa
set_option maxRecDepth 100000
open Go.RowKit
set_option linter.unusedVariables false
set_option linter.unusedSimpArgs false

/-- A row of operations above a block, and not in another one. -/
def OpsFar (w : World) (lo p : Nat) (a : Option Addr) (n : Nat) (l : List OpV) : Prop := Ops w w.heap.size a n l ∧ ∀ b o, 0 < n → a = some ⟨b, o, none⟩ → lo ≤ b ∧ b ≠ p
def IntsFar (w : World) (lo p : Nat) (a : Option Addr) (n : Nat) (xs : List Int) : Prop := Ints w w.heap.size a n xs ∧ ∀ b o, 0 < n → a = some ⟨b, o, none⟩ → lo ≤ b ∧ b ≠ p
theorem OpsFar.kept {w w' : World} {lo p n : Nat} {a : Option Addr} {l : List OpV} (h : OpsFar w lo p a n l) (hk : ∀ j, lo ≤ j → j < w.heap.size → j ≠ p → w'.heap[j]? = w.heap[j]?) (hs : w.heap.size ≤ w'.heap.size) : OpsFar w' lo p a n l :=
 ⟨⟨h.1.1, fun i hi => by
  obtain ⟨b, off, e, hb, ho⟩ := h.1.2 i hi
  obtain ⟨h1, h2⟩ := h.2 b off (by omega) e
  exact ⟨b, off, e, by omega, ho.kept (hk b h1 hb h2)⟩⟩, h.2⟩
theorem IntsFar.kept {w w' : World} {lo p n : Nat} {a : Option Addr} {xs : List Int} (h : IntsFar w lo p a n xs) (hk : ∀ j, lo ≤ j → j < w.heap.size → j ≠ p → w'.heap[j]? = w.heap[j]?) (hs : w.heap.size ≤ w'.heap.size) : IntsFar w' lo p a n xs :=
 ⟨⟨h.1.1, fun i hi => by
  obtain ⟨b, off, e, hb, ho⟩ := h.1.2 i hi
  obtain ⟨h1, h2⟩ := h.2 b off (by omega) e
  exact ⟨b, off, e, by omega, (World.cell?_of_block (a := ⟨b, off + i, none⟩) (hk b h1 hb h2)).trans ho⟩⟩, h.2⟩
theorem far_ops {w : World} {lo p l0 h0 n : Nat} {a : Option Addr} {l : List OpV} (h : OwnOps w l0 h0 a n l) (hlo : lo ≤ l0) (hp : p < l0 ∨ h0 ≤ p) (hs : h0 ≤ w.heap.size) : OpsFar w lo p a n l :=
 ⟨h.ops.more hs, fun b o hn e => by
  obtain ⟨g, off, cs, e1, g1, g2, _⟩ := h.2 hn
  rw [e] at e1
  injection e1 with e1
  injection e1 with e1
  omega⟩
theorem far_ints {w : World} {lo p l0 h0 n : Nat} {a : Option Addr} {xs : List Int} (h : Own w l0 h0 a n xs) (hlo : lo ≤ l0) (hp : p < l0 ∨ h0 ≤ p) (hs : h0 ≤ w.heap.size) : IntsFar w lo p a n xs :=
 ⟨h.ints.more hs, fun b o hn e => by
  obtain ⟨g, cs, e1, g1, g2, _⟩ := h.2 hn
  rw [e] at e1
  injection e1 with e1
  injection e1 with e1
  omega⟩
theorem OpsFar.tail {w : World} {lo p b off n c : Nat} {l : List OpV} (h : OpsFar w lo p (some ⟨b, off, none⟩) n l) (hn : 0 < n) (hc : n ≤ c) : OpsFar w lo p (if c = 1 then some ⟨b, off, none⟩ else some ⟨b, off + 8, none⟩) (n - 1) (l.drop 1) := by
 split
 ·exact ⟨⟨by rw [List.length_drop, h.1.1], fun i hi => absurd hi (by omega)⟩, fun _ _ h0 => absurd h0 (by omega)⟩
 ·have ht := ops_tail h.1 (p := 1) hn
  refine ⟨ht, fun b' o' _ e => ?_⟩
  injection e with e
  injection e with e1
  rw [← e1]
  exact h.2 b off hn rfl
theorem delOs_items {l m : List OpV} {N : Nat} (R : Bool) (h : ∀ i, i < l.length → (atOp l i).item.size ≤ N) : ∀ i, i < (delOs l m R).length → (atOp (delOs l m R) i).item.size ≤ N := by
 unfold delOs
 split
 ·exact filt_items2 h
 ·intro i hi; exact absurd hi (by simp)
theorem setCell_own {w : World} {P : Nat} {a b : Value} {T : TypeId} {fr : Nat × Nat} (h : w.heap[P]? = some (.cells #[a, b] T fr)) : w.setCell ⟨P, 0, none⟩ a = w := by
 obtain ⟨hlt, hv⟩ := Array.getElem?_eq_some_iff.1 h
 have hm : w.heap.modify P (fun | .cells c elem frozen => .cells (if (none : Option Nat).isSome then c else c.setIfInBounds 0 a) elem frozen | o => o) = w.heap := by
  apply Array.ext
  ·simp
  ·intro i h1 h2
   rw [Array.getElem_modify]
   split
   ·rename_i e
    subst e
    rw [hv]
    rfl
   ·rfl
 unfold World.setCell
 show ({ w with heap := _ } : World) = w
 exact congrArg (fun h => ({ w with heap := h } : World)) hm
/-- What a draw of a cart and a part answers. -/
def DrawsTP (w : World) (e : Ending) (w' : World) : Prop :=
 ∃ (x : CartC) (pv : Option Addr) (pn pc : Nat) (po : Option Addr) (pm pk : Nat) (zs : List Int) (m : List OpV), pn ≤ 4 ∧ pm ≤ 400 ∧ pm ≤ pk ∧ (∀ i, i < pm → (atOp m i).item.size ≤ 8) ∧ e = .returned (.tuple #[.agg #[.slice x.va 4 x.vc, .slice x.oa x.no x.oc], .agg #[.slice pv pn pc, .slice po pm pk]]) ∧ Crw w' w.heap.size w'.heap.size x ∧ Ints w' w'.heap.size pv pn zs ∧ Ops w' w'.heap.size po pm m ∧ Below w.heap.size w w'
theorem out_tp {w z : World} {B g : Nat} {a : Option Addr} {len cap : Nat} {u0 u1 v0 v1 : Value} {x : CartC} {lo p : Nat} {pv : Option Addr} {pn pc : Nat} {po : Option Addr} {pm pk : Nat} {zs : List Int} {m : List OpV} (h : D2 w z B g a len cap #[u0, u1] #[v0, v1]) (hx : Crw z w.heap.size z.heap.size x) (hi : IntsFar z lo p pv pn zs) (ho : OpsFar z lo p po pm m) (hlo : w.heap.size + 1 < lo) :
  Hid (((((z.setCell ⟨w.heap.size, 0, none⟩ (.slice x.va 4 x.vc)).setCell ⟨w.heap.size, 1, none⟩ (.slice x.oa x.no x.oc)).setCell ⟨w.heap.size + 1, 0, none⟩ (.slice pv pn pc)).setCell ⟨w.heap.size + 1, 1, none⟩ (.slice po pm pk)).heap[w.heap.size]? = some (.cells #[.slice x.va 4 x.vc, .slice x.oa x.no x.oc] 29 (0, 0))) ∧ Hid (((((z.setCell ⟨w.heap.size, 0, none⟩ (.slice x.va 4 x.vc)).setCell ⟨w.heap.size, 1, none⟩ (.slice x.oa x.no x.oc)).setCell ⟨w.heap.size + 1, 0, none⟩ (.slice pv pn pc)).setCell ⟨w.heap.size + 1, 1, none⟩ (.slice po pm pk)).heap[w.heap.size + 1]? = some (.cells #[.slice pv pn pc, .slice po pm pk] 29 (0, 0))) ∧ Hid (Crw ((((z.setCell ⟨w.heap.size, 0, none⟩ (.slice x.va 4 x.vc)).setCell ⟨w.heap.size, 1, none⟩ (.slice x.oa x.no x.oc)).setCell ⟨w.heap.size + 1, 0, none⟩ (.slice pv pn pc)).setCell ⟨w.heap.size + 1, 1, none⟩ (.slice po pm pk)) w.heap.size ((((z.setCell ⟨w.heap.size, 0, none⟩ (.slice x.va 4 x.vc)).setCell ⟨w.heap.size, 1, none⟩ (.slice x.oa x.no x.oc)).setCell ⟨w.heap.size + 1, 0, none⟩ (.slice pv pn pc)).setCell ⟨w.heap.size + 1, 1, none⟩ (.slice po pm pk)).heap.size x) ∧ Hid (Ints ((((z.setCell ⟨w.heap.size, 0, none⟩ (.slice x.va 4 x.vc)).setCell ⟨w.heap.size, 1, none⟩ (.slice x.oa x.no x.oc)).setCell ⟨w.heap.size + 1, 0, none⟩ (.slice pv pn pc)).setCell ⟨w.heap.size + 1, 1, none⟩ (.slice po pm pk)) ((((z.setCell ⟨w.heap.size, 0, none⟩ (.slice x.va 4 x.vc)).setCell ⟨w.heap.size, 1, none⟩ (.slice x.oa x.no x.oc)).setCell ⟨w.heap.size + 1, 0, none⟩ (.slice pv pn pc)).setCell ⟨w.heap.size + 1, 1, none⟩ (.slice po pm pk)).heap.size pv pn zs) ∧ Hid (Ops ((((z.setCell ⟨w.heap.size, 0, none⟩ (.slice x.va 4 x.vc)).setCell ⟨w.heap.size, 1, none⟩ (.slice x.oa x.no x.oc)).setCell ⟨w.heap.size + 1, 0, none⟩ (.slice pv pn pc)).setCell ⟨w.heap.size + 1, 1, none⟩ (.slice po pm pk)) ((((z.setCell ⟨w.heap.size, 0, none⟩ (.slice x.va 4 x.vc)).setCell ⟨w.heap.size, 1, none⟩ (.slice x.oa x.no x.oc)).setCell ⟨w.heap.size + 1, 0, none⟩ (.slice pv pn pc)).setCell ⟨w.heap.size + 1, 1, none⟩ (.slice po pm pk)).heap.size po pm m) ∧ Hid (Below w.heap.size w ((((z.setCell ⟨w.heap.size, 0, none⟩ (.slice x.va 4 x.vc)).setCell ⟨w.heap.size, 1, none⟩ (.slice x.oa x.no x.oc)).setCell ⟨w.heap.size + 1, 0, none⟩ (.slice pv pn pc)).setCell ⟨w.heap.size + 1, 1, none⟩ (.slice po pm pk))) := by
 have e1 := pair_set (.slice x.va 4 x.vc) (.slice x.oa x.no x.oc) h.ra
 have hb : ((z.setCell ⟨w.heap.size, 0, none⟩ (.slice x.va 4 x.vc)).setCell ⟨w.heap.size, 1, none⟩ (.slice x.oa x.no x.oc)).heap[w.heap.size + 1]? = some (.cells #[v0, v1] 29 (0, 0)) := (pair_other _ _ (by omega)).trans h.rb
 have e2 := pair_set (.slice pv pn pc) (.slice po pm pk) hb
 have z1 := pair_size z w.heap.size (.slice x.va 4 x.vc) (.slice x.oa x.no x.oc)
 have z2 := pair_size ((z.setCell ⟨w.heap.size, 0, none⟩ (.slice x.va 4 x.vc)).setCell ⟨w.heap.size, 1, none⟩ (.slice x.oa x.no x.oc)) (w.heap.size + 1) (.slice pv pn pc) (.slice po pm pk)
 have hk : ∀ j, j ≠ w.heap.size → j ≠ w.heap.size + 1 → ((((z.setCell ⟨w.heap.size, 0, none⟩ (.slice x.va 4 x.vc)).setCell ⟨w.heap.size, 1, none⟩ (.slice x.oa x.no x.oc)).setCell ⟨w.heap.size + 1, 0, none⟩ (.slice pv pn pc)).setCell ⟨w.heap.size + 1, 1, none⟩ (.slice po pm pk)).heap[j]? = z.heap[j]? := fun j h1 h2 => (pair_other _ _ h2).trans (pair_other _ _ h1)
 have hsz : z.heap.size ≤ ((((z.setCell ⟨w.heap.size, 0, none⟩ (.slice x.va 4 x.vc)).setCell ⟨w.heap.size, 1, none⟩ (.slice x.oa x.no x.oc)).setCell ⟨w.heap.size + 1, 0, none⟩ (.slice pv pn pc)).setCell ⟨w.heap.size + 1, 1, none⟩ (.slice po pm pk)).heap.size := by rw [z2, z1]; exact Nat.le_refl _
 refine ⟨(pair_other _ _ (by omega)).trans e1, e2, ?_, (hi.kept (fun j a1 _ _ => hk j (by omega) (by omega)) hsz).1, (ho.kept (fun j a1 _ _ => hk j (by omega) (by omega)) hsz).1, (h.bel.trans (below_set2 z w.heap.size 0 1 _ _)).trans ((below_set2 _ (w.heap.size + 1) 0 1 _ _).mono (by omega))⟩
 show Crw _ _ _ _
 rw [z2, z1]
 have c1 : Crw ((z.setCell ⟨w.heap.size, 0, none⟩ (.slice x.va 4 x.vc)).setCell ⟨w.heap.size, 1, none⟩ (.slice x.oa x.no x.oc)) w.heap.size z.heap.size x := hx.other h.ra fun j _ _ hne => pair_other _ _ hne
 exact c1.other hb fun j _ _ hne => pair_other _ _ hne
set_option maxHeartbeats 80000000 in
theorem drawTaken (w : World) (B : Nat) (a : Option Addr) (len cap : Nat) (hB : B ≤ w.heap.size) (h : Src w B a len) :
  Calls Try.prog 15 #[.slice a len cap] w (DrawsTP w) := by
 have hT := Two.mk0 w #[.slice none 0 0, .slice none 0 0] #[.slice none 0 0, .slice none 0 0] 29
 have hTs : Hid (((w.alloc (.cells #[.slice none 0 0, .slice none 0 0] 29)).alloc (.cells #[.slice none 0 0, .slice none 0 0] 29)).heap.size = w.heap.size + 2) := by show _ = _; simp
 have HS0 := Lib.hid (h.kept (w' := (w.alloc (.cells #[.slice none 0 0, .slice none 0 0] 29)).alloc (.cells #[.slice none 0 0, .slice none 0 0] 29)) fun k hk => hT.bel.block k (by omega))
 have HT := Lib.hid hT
 clear h hT
 go_enter Try.func15, Try.ntmps15
 go_wp2_with fail
 generalize (w.alloc (.cells #[.slice none 0 0, .slice none 0 0] 29)).alloc (.cells #[.slice none 0 0, .slice none 0 0] 29) = w0 at HS0 HT hTs ⊢
 refine (l1Open w0 B a len cap (by have := hTs.out; omega) HS0.out).mono ?_
 rintro e w1 ⟨rfl, hg1, hr1⟩
 have HD1 : Hid (D2 w w1 B w0.heap.size a len cap #[.slice none 0 0, .slice none 0 0] #[.slice none 0 0, .slice none 0 0]) := ⟨(hg1.block _ (by have := hTs.out; omega) (by intro e; cases e)).trans HT.out.fst, (hg1.block _ (by have := hTs.out; omega) (by intro e; cases e)).trans HT.out.snd, HT.out.bel.grown hg1 (by have := hTs.out; omega) (fun k hk => by cases hk), hr1, by have := hTs.out; omega⟩
 clear hg1 hr1 HS0 HT hTs
 generalize w0.heap.size = g at HD1 ⊢
 go_wp2_with fail
 refine (rdCartsI w1 B g a len cap HD1.out.rd 3 18 (by omega) (by omega) (by omega) 3 18 rfl rfl).mono ?_
 rintro e w2 ⟨q, c, l, rfl, hl⟩
 have hgl := HD1.out.glt
 have hg1 := HD1.out.rd.lt
 have HL2 := Lib.hid hl
 have hs2 := hl.grown.size
 have hqlo := hl.row.lo
 have hq2 := hl.qlt
 clear hl
 go_upto_region 3 with fail
 rename_i KR hKR
 have hKall : ∀ (P : Nat) (pv : Option Addr) (pc : Nat) (po : Option Addr) (pk : Nat) (vs : List Int) (os : List OpV) (u7 u12 u13 u14 u15 u16 u17 u18 u19 u20 u21 : Value) (w3 : World), vs.length ≤ 4 → os.length ≤ 400 → Caps po os.length pk → Hid (∀ i, i < os.length → (atOp os i).item.size ≤ 8) → Hid (CrsL w1 w3 B g a len cap q l 3) → Hid (w3.heap[P]? = some (.cells #[.slice pv vs.length pc, .slice po os.length pk] 29 (0, 0))) → Hid (IntsFar w3 w1.heap.size P pv vs.length vs) → Hid (OpsFar w3 w1.heap.size P po os.length os) → w1.heap.size ≤ P → P ≠ q → KR { tmps := #[.slice a len cap, undef, .pointer (some ⟨w.heap.size, 0, none⟩), .pointer (some ⟨w.heap.size + 1, 0, none⟩), .pointer (some ⟨g, 0, none⟩), .slice (some ⟨q, 0, none⟩) 3 c, .pointer (some ⟨P, 0, none⟩), u7, .slice a len cap, .pointer (some ⟨g, 0, none⟩), .pointer (some ⟨g, 0, none⟩), .slice (some ⟨q, 0, none⟩) 3 c, u12, u13, u14, u15, u16, u17, u18, u19, u20, u21, undef, undef, undef, undef, undef, undef, undef, undef, undef, undef, undef, undef, undef, undef, undef, undef, undef, undef], defers := [] } w3 := by
  intro P pv pc po pk vs os u7 u12 u13 u14 u15 u16 u17 u18 u19 u20 u21 w3 hlv hlo hcp HIt HL3 HP3 HI3 HO3 hpw hpq
  apply hKR
  clear hKR HL2
  have hcpk := hcp.1
  have hpl := lt_of_row HP3.out
  go_wp2_with fail
  refine (once w3 B g a len cap HL3.out.rd 4 (by omega) (by omega)).mono ?_
  rintro e w4 ⟨o1, rfl, hg, hr⟩
  have HL4 := Lib.hid (HL3.out.step hg hr)
  have HP4 := Lib.hid ((hg.block _ hpl (by intro e; injection e with e; omega)).trans HP3.out)
  have HI4 := Lib.hid (HI3.out.kept (fun j h1 h2 _ => hg.block j h2 (by intro e; injection e with e; omega)) hg.size)
  have HO4 := Lib.hid (HO3.out.kept (fun j h1 h2 _ => hg.block j h2 (by intro e; injection e with e; omega)) hg.size)
  have hs4 := hg.size
  clear hg hr HL3 HP3 HI3 HO3
  rename_i K6 hK6 K1 hK1 K0 hK0
  have hKt : ∀ (po : Option Addr) (pm pk : Nat) (m : List OpV) (u7 u12 u13 u14 u15 u16 u17 u18 u19 u20 u21 u22 u23 u24 u25 u26 u27 u28 u29 u30 u31 u32 u33 : Value) (w5 : World), pm ≤ pk → pm ≤ 400 → (∀ i, i < pm → (atOp m i).item.size ≤ 8) → Hid (CrsL w1 w5 B g a len cap q l 3) → Hid (w5.heap[P]? = some (.cells #[.slice pv vs.length pc, .slice po pm pk] 29 (0, 0))) → Hid (IntsFar w5 w1.heap.size P pv vs.length vs) → Hid (OpsFar w5 w1.heap.size P po pm m) → K6 { tmps := #[.slice a len cap, undef, .pointer (some ⟨w.heap.size, 0, none⟩), .pointer (some ⟨w.heap.size + 1, 0, none⟩), .pointer (some ⟨g, 0, none⟩), .slice (some ⟨q, 0, none⟩) 3 c, .pointer (some ⟨P, 0, none⟩), u7, .slice a len cap, .pointer (some ⟨g, 0, none⟩), .pointer (some ⟨g, 0, none⟩), .slice (some ⟨q, 0, none⟩) 3 c, u12, u13, u14, u15, u16, u17, u18, u19, u20, u21, u22, u23, u24, u25, u26, u27, u28, u29, u30, u31, u32, u33, undef, undef, undef, undef, undef, undef], defers := [] } w5 := by
   intro po pm pk m u7 u12 u13 u14 u15 u16 u17 u18 u19 u20 u21 u22 u23 u24 u25 u26 u27 u28 u29 u30 u31 u32 u33 w5 hcpk hlo hit HL5 HP5 HI5 HO5
   apply hK6
   clear hK6
   go_upto_region 6 with fail
   obtain ⟨z0, hz0e⟩ : ∃ z0, w5.drew = z0 := ⟨_, rfl⟩
   have g0 : Below w5.heap.size w5 z0 := by rw [← hz0e]; exact ⟨rfl, rfl, rfl, Nat.le_refl _, fun _ _ => rfl⟩
   have HLz0 := Lib.hid (HL5.out.below g0)
   have HPz0 := Lib.hid ((g0.block _ (lt_of_row HP5.out)).trans HP5.out)
   have HIz0 := Lib.hid (HI5.out.kept (fun j _ h _ => g0.block j h) g0.size)
   have HOz0 := Lib.hid (HO5.out.kept (fun j _ h _ => g0.block j h) g0.size)
   have Sz0 : z0.cell? ⟨q, 0, none⟩ = some (.slice (cAt l 0).va 4 (cAt l 0).vc) ∧ z0.cell? ⟨q, 1, none⟩ = some (.slice (cAt l 0).oa (cAt l 0).no (cAt l 0).oc) ∧ z0.cell? ⟨q, 2, none⟩ = some (.slice (cAt l 1).va 4 (cAt l 1).vc) ∧ z0.cell? ⟨q, 3, none⟩ = some (.slice (cAt l 1).oa (cAt l 1).no (cAt l 1).oc) ∧ z0.cell? ⟨q, 4, none⟩ = some (.slice (cAt l 2).va 4 (cAt l 2).vc) ∧ z0.cell? ⟨q, 5, none⟩ = some (.slice (cAt l 2).oa (cAt l 2).no (cAt l 2).oc) ∧ z0.cell? ⟨P, 0, none⟩ = some (.slice pv vs.length pc) ∧ z0.cell? ⟨P, 1, none⟩ = some (.slice po pm pk) := ⟨(HLz0.out.cell 0 (by omega)).1, (HLz0.out.cell 0 (by omega)).2, (HLz0.out.cell 1 (by omega)).1, (HLz0.out.cell 1 (by omega)).2, (HLz0.out.cell 2 (by omega)).1, (HLz0.out.cell 2 (by omega)).2, (pair_cells HPz0.out).1, (pair_cells HPz0.out).2⟩
   go_wp2_with fail
   refine wp_region_held_drew (S := fun w' => w'.cell? ⟨q, 0, none⟩ = some (.slice (cAt l 0).va 4 (cAt l 0).vc) ∧ w'.cell? ⟨q, 1, none⟩ = some (.slice (cAt l 0).oa (cAt l 0).no (cAt l 0).oc) ∧ w'.cell? ⟨q, 2, none⟩ = some (.slice (cAt l 1).va 4 (cAt l 1).vc) ∧ w'.cell? ⟨q, 3, none⟩ = some (.slice (cAt l 1).oa (cAt l 1).no (cAt l 1).oc) ∧ w'.cell? ⟨q, 4, none⟩ = some (.slice (cAt l 2).va 4 (cAt l 2).vc) ∧ w'.cell? ⟨q, 5, none⟩ = some (.slice (cAt l 2).oa (cAt l 2).no (cAt l 2).oc) ∧ w'.cell? ⟨P, 0, none⟩ = some (.slice pv vs.length pc) ∧ w'.cell? ⟨P, 1, none⟩ = some (.slice po pm pk)) (by kernel_rfl) (by rw [hz0e]; exact Sz0) (fun hHeld => ?_)
   rw [hz0e]
   clear hHeld hz0e g0
   refine tk 0 ⟨some 34, .move (.tmp 5), 86, "l07_deltas.go:118", #[], none⟩ ?_
   (try simp only [Act.put, u1, u2, u3])
   refine tk 1 ⟨some 35, .move (.tmp 4), 84, "l07_deltas.go:118", #[], none⟩ ?_
   (try simp only [Act.put, u1, u2, u3])
   refine tk 5 ⟨some 39, .load 29 (.tmp 6), 29, "l07_deltas.go:118", #[{ on := 6, ground := Ground.gcOnly Departure.lateStores }], none⟩ ?_
   (try simp only [Act.put, u1, u2, u3])
   refine rk 2 rfl (fun K hK => ?_)
   go_simp
   go_at_call 63
   refine (belowI z0 B g a len cap HLz0.out.rd 3 (by omega) (by omega)).mono ?_
   rintro e z1 ⟨v, hv, rfl, hg, hr⟩
   have HLz1 := Lib.hid (HLz0.out.step hg hr)
   have HPz1 := Lib.hid ((hg.block _ (lt_of_row HPz0.out) (by intro e; injection e with e; omega)).trans HPz0.out)
   have HIz1 := Lib.hid (HIz0.out.kept (fun j h1 h2 _ => hg.block j h2 (by intro e; injection e with e; omega)) hg.size)
   have HOz1 := Lib.hid (HOz0.out.kept (fun j h1 h2 _ => hg.block j h2 (by intro e; injection e with e; omega)) hg.size)
   have Sz1 : z1.cell? ⟨q, 0, none⟩ = some (.slice (cAt l 0).va 4 (cAt l 0).vc) ∧ z1.cell? ⟨q, 1, none⟩ = some (.slice (cAt l 0).oa (cAt l 0).no (cAt l 0).oc) ∧ z1.cell? ⟨q, 2, none⟩ = some (.slice (cAt l 1).va 4 (cAt l 1).vc) ∧ z1.cell? ⟨q, 3, none⟩ = some (.slice (cAt l 1).oa (cAt l 1).no (cAt l 1).oc) ∧ z1.cell? ⟨q, 4, none⟩ = some (.slice (cAt l 2).va 4 (cAt l 2).vc) ∧ z1.cell? ⟨q, 5, none⟩ = some (.slice (cAt l 2).oa (cAt l 2).no (cAt l 2).oc) ∧ z1.cell? ⟨P, 0, none⟩ = some (.slice pv vs.length pc) ∧ z1.cell? ⟨P, 1, none⟩ = some (.slice po pm pk) := ⟨(HLz1.out.cell 0 (by omega)).1, (HLz1.out.cell 0 (by omega)).2, (HLz1.out.cell 1 (by omega)).1, (HLz1.out.cell 1 (by omega)).2, (HLz1.out.cell 2 (by omega)).1, (HLz1.out.cell 2 (by omega)).2, (pair_cells HPz1.out).1, (pair_cells HPz1.out).2⟩
   obtain ⟨vi, hvi⟩ : ∃ i : Int, (v : Int) = i := ⟨_, rfl⟩
   have hv3 : vi = 0 ∨ vi = 1 ∨ vi = 2 := by omega
   rw [hvi]
   clear hvi hg hr
   refine hK.out _ _ Sz1 (fun hHeld2 => ?_)
   clear hK K hHeld2
   (try simp only [Act.put, u1, u2, u3])
   have HD := Lib.hid (HD1.out.step HLz1.out.grown HLz1.out.rd)
   have hwq : q ≠ w.heap.size := by omega
   have hwq2 : q ≠ w.heap.size + 1 := by omega
   have hwp : P ≠ w.heap.size := by omega
   have hwp2 : P ≠ w.heap.size + 1 := by omega
   clear HLz0 HPz0 HIz0 HOz0 Sz0
   rcases hv3 with rfl | rfl | rfl
   ·skip
    refine tk 3 ⟨some 37, .indexAddr 86 (.tmp 34) (.tmp 36), 0, "l07_deltas.go:118", #[⟨0, .data⟩, ⟨2, .data⟩], none⟩ ?_
    (try simp only [Act.put, u1, u2, u3])
    refine tk 4 ⟨some 38, .load 29 (.tmp 37), 29, "l07_deltas.go:118", #[⟨3, .data⟩], none⟩ ?_
    (try simp only [Act.put, u1, u2, u3])
    have hx : Crw z1 w.heap.size z1.heap.size (cAt l 0) := (CrtC.weak (HLz1.out.row.crt 0 (by rw [HLz1.out.num]; omega))).more (by have := HD1.out.bel.size; omega) (Nat.le_refl _)
    obtain ⟨HRa, HRb, HX, HI, HO, HBl⟩ := out_tp HD.out hx HIz1.out HOz1.out (by omega)
    obtain ⟨r0, r1⟩ := pair_cells HD.out.ra
    obtain ⟨f0, f1⟩ := pair_frozen HD.out.ra
    have hSa : ((z1.setCell ⟨w.heap.size, 0, none⟩ (.slice (cAt l 0).va 4 (cAt l 0).vc)).setCell ⟨w.heap.size, 1, none⟩ (.slice (cAt l 0).oa (cAt l 0).no (cAt l 0).oc)).cell? ⟨q, 0, none⟩ = some (.slice (cAt l 0).va 4 (cAt l 0).vc) ∧ ((z1.setCell ⟨w.heap.size, 0, none⟩ (.slice (cAt l 0).va 4 (cAt l 0).vc)).setCell ⟨w.heap.size, 1, none⟩ (.slice (cAt l 0).oa (cAt l 0).no (cAt l 0).oc)).cell? ⟨q, 1, none⟩ = some (.slice (cAt l 0).oa (cAt l 0).no (cAt l 0).oc) ∧ ((z1.setCell ⟨w.heap.size, 0, none⟩ (.slice (cAt l 0).va 4 (cAt l 0).vc)).setCell ⟨w.heap.size, 1, none⟩ (.slice (cAt l 0).oa (cAt l 0).no (cAt l 0).oc)).cell? ⟨q, 2, none⟩ = some (.slice (cAt l 1).va 4 (cAt l 1).vc) ∧ ((z1.setCell ⟨w.heap.size, 0, none⟩ (.slice (cAt l 0).va 4 (cAt l 0).vc)).setCell ⟨w.heap.size, 1, none⟩ (.slice (cAt l 0).oa (cAt l 0).no (cAt l 0).oc)).cell? ⟨q, 3, none⟩ = some (.slice (cAt l 1).oa (cAt l 1).no (cAt l 1).oc) ∧ ((z1.setCell ⟨w.heap.size, 0, none⟩ (.slice (cAt l 0).va 4 (cAt l 0).vc)).setCell ⟨w.heap.size, 1, none⟩ (.slice (cAt l 0).oa (cAt l 0).no (cAt l 0).oc)).cell? ⟨q, 4, none⟩ = some (.slice (cAt l 2).va 4 (cAt l 2).vc) ∧ ((z1.setCell ⟨w.heap.size, 0, none⟩ (.slice (cAt l 0).va 4 (cAt l 0).vc)).setCell ⟨w.heap.size, 1, none⟩ (.slice (cAt l 0).oa (cAt l 0).no (cAt l 0).oc)).cell? ⟨q, 5, none⟩ = some (.slice (cAt l 2).oa (cAt l 2).no (cAt l 2).oc) ∧ ((z1.setCell ⟨w.heap.size, 0, none⟩ (.slice (cAt l 0).va 4 (cAt l 0).vc)).setCell ⟨w.heap.size, 1, none⟩ (.slice (cAt l 0).oa (cAt l 0).no (cAt l 0).oc)).cell? ⟨P, 0, none⟩ = some (.slice pv vs.length pc) ∧ ((z1.setCell ⟨w.heap.size, 0, none⟩ (.slice (cAt l 0).va 4 (cAt l 0).vc)).setCell ⟨w.heap.size, 1, none⟩ (.slice (cAt l 0).oa (cAt l 0).no (cAt l 0).oc)).cell? ⟨P, 1, none⟩ = some (.slice po pm pk) := ⟨(World.cell?_of_block (a := ⟨q, 0, none⟩) (pair_other _ _ hwq)).trans Sz1.1, (World.cell?_of_block (a := ⟨q, 1, none⟩) (pair_other _ _ hwq)).trans Sz1.2.1, (World.cell?_of_block (a := ⟨q, 2, none⟩) (pair_other _ _ hwq)).trans Sz1.2.2.1, (World.cell?_of_block (a := ⟨q, 3, none⟩) (pair_other _ _ hwq)).trans Sz1.2.2.2.1, (World.cell?_of_block (a := ⟨q, 4, none⟩) (pair_other _ _ hwq)).trans Sz1.2.2.2.2.1, (World.cell?_of_block (a := ⟨q, 5, none⟩) (pair_other _ _ hwq)).trans Sz1.2.2.2.2.2.1, (World.cell?_of_block (a := ⟨P, 0, none⟩) (pair_other _ _ hwp)).trans Sz1.2.2.2.2.2.2.1, (World.cell?_of_block (a := ⟨P, 1, none⟩) (pair_other _ _ hwp)).trans Sz1.2.2.2.2.2.2.2⟩
    refine rk 6 rfl (fun K hK => ?_)
    go_simp
    refine hK.out _ _ hSa (fun hHeld3 => ?_)
    clear hK K
    (try simp only [Act.put, u1, u2, u3])
    clear r0 r1 f0 f1
    have hrb : ((z1.setCell ⟨w.heap.size, 0, none⟩ (.slice (cAt l 0).va 4 (cAt l 0).vc)).setCell ⟨w.heap.size, 1, none⟩ (.slice (cAt l 0).oa (cAt l 0).no (cAt l 0).oc)).heap[w.heap.size + 1]? = _ := (pair_other _ _ (by omega)).trans HD.out.rb
    obtain ⟨r0, r1⟩ := pair_cells hrb
    obtain ⟨f0, f1⟩ := pair_frozen hrb
    clear hrb
    have hSb : ((((z1.setCell ⟨w.heap.size, 0, none⟩ (.slice (cAt l 0).va 4 (cAt l 0).vc)).setCell ⟨w.heap.size, 1, none⟩ (.slice (cAt l 0).oa (cAt l 0).no (cAt l 0).oc)).setCell ⟨w.heap.size + 1, 0, none⟩ (.slice pv vs.length pc)).setCell ⟨w.heap.size + 1, 1, none⟩ (.slice po pm pk)).cell? ⟨q, 0, none⟩ = some (.slice (cAt l 0).va 4 (cAt l 0).vc) ∧ ((((z1.setCell ⟨w.heap.size, 0, none⟩ (.slice (cAt l 0).va 4 (cAt l 0).vc)).setCell ⟨w.heap.size, 1, none⟩ (.slice (cAt l 0).oa (cAt l 0).no (cAt l 0).oc)).setCell ⟨w.heap.size + 1, 0, none⟩ (.slice pv vs.length pc)).setCell ⟨w.heap.size + 1, 1, none⟩ (.slice po pm pk)).cell? ⟨q, 1, none⟩ = some (.slice (cAt l 0).oa (cAt l 0).no (cAt l 0).oc) ∧ ((((z1.setCell ⟨w.heap.size, 0, none⟩ (.slice (cAt l 0).va 4 (cAt l 0).vc)).setCell ⟨w.heap.size, 1, none⟩ (.slice (cAt l 0).oa (cAt l 0).no (cAt l 0).oc)).setCell ⟨w.heap.size + 1, 0, none⟩ (.slice pv vs.length pc)).setCell ⟨w.heap.size + 1, 1, none⟩ (.slice po pm pk)).cell? ⟨q, 2, none⟩ = some (.slice (cAt l 1).va 4 (cAt l 1).vc) ∧ ((((z1.setCell ⟨w.heap.size, 0, none⟩ (.slice (cAt l 0).va 4 (cAt l 0).vc)).setCell ⟨w.heap.size, 1, none⟩ (.slice (cAt l 0).oa (cAt l 0).no (cAt l 0).oc)).setCell ⟨w.heap.size + 1, 0, none⟩ (.slice pv vs.length pc)).setCell ⟨w.heap.size + 1, 1, none⟩ (.slice po pm pk)).cell? ⟨q, 3, none⟩ = some (.slice (cAt l 1).oa (cAt l 1).no (cAt l 1).oc) ∧ ((((z1.setCell ⟨w.heap.size, 0, none⟩ (.slice (cAt l 0).va 4 (cAt l 0).vc)).setCell ⟨w.heap.size, 1, none⟩ (.slice (cAt l 0).oa (cAt l 0).no (cAt l 0).oc)).setCell ⟨w.heap.size + 1, 0, none⟩ (.slice pv vs.length pc)).setCell ⟨w.heap.size + 1, 1, none⟩ (.slice po pm pk)).cell? ⟨q, 4, none⟩ = some (.slice (cAt l 2).va 4 (cAt l 2).vc) ∧ ((((z1.setCell ⟨w.heap.size, 0, none⟩ (.slice (cAt l 0).va 4 (cAt l 0).vc)).setCell ⟨w.heap.size, 1, none⟩ (.slice (cAt l 0).oa (cAt l 0).no (cAt l 0).oc)).setCell ⟨w.heap.size + 1, 0, none⟩ (.slice pv vs.length pc)).setCell ⟨w.heap.size + 1, 1, none⟩ (.slice po pm pk)).cell? ⟨q, 5, none⟩ = some (.slice (cAt l 2).oa (cAt l 2).no (cAt l 2).oc) ∧ ((((z1.setCell ⟨w.heap.size, 0, none⟩ (.slice (cAt l 0).va 4 (cAt l 0).vc)).setCell ⟨w.heap.size, 1, none⟩ (.slice (cAt l 0).oa (cAt l 0).no (cAt l 0).oc)).setCell ⟨w.heap.size + 1, 0, none⟩ (.slice pv vs.length pc)).setCell ⟨w.heap.size + 1, 1, none⟩ (.slice po pm pk)).cell? ⟨P, 0, none⟩ = some (.slice pv vs.length pc) ∧ ((((z1.setCell ⟨w.heap.size, 0, none⟩ (.slice (cAt l 0).va 4 (cAt l 0).vc)).setCell ⟨w.heap.size, 1, none⟩ (.slice (cAt l 0).oa (cAt l 0).no (cAt l 0).oc)).setCell ⟨w.heap.size + 1, 0, none⟩ (.slice pv vs.length pc)).setCell ⟨w.heap.size + 1, 1, none⟩ (.slice po pm pk)).cell? ⟨P, 1, none⟩ = some (.slice po pm pk) := ⟨(World.cell?_of_block (a := ⟨q, 0, none⟩) (pair_other _ _ hwq2)).trans hSa.1, (World.cell?_of_block (a := ⟨q, 1, none⟩) (pair_other _ _ hwq2)).trans hSa.2.1, (World.cell?_of_block (a := ⟨q, 2, none⟩) (pair_other _ _ hwq2)).trans hSa.2.2.1, (World.cell?_of_block (a := ⟨q, 3, none⟩) (pair_other _ _ hwq2)).trans hSa.2.2.2.1, (World.cell?_of_block (a := ⟨q, 4, none⟩) (pair_other _ _ hwq2)).trans hSa.2.2.2.2.1, (World.cell?_of_block (a := ⟨q, 5, none⟩) (pair_other _ _ hwq2)).trans hSa.2.2.2.2.2.1, (World.cell?_of_block (a := ⟨P, 0, none⟩) (pair_other _ _ hwp2)).trans hSa.2.2.2.2.2.2.1, (World.cell?_of_block (a := ⟨P, 1, none⟩) (pair_other _ _ hwp2)).trans hSa.2.2.2.2.2.2.2⟩
    refine rk 7 rfl (fun K hK => ?_)
    go_simp
    refine hK.out _ _ hSb (fun hHeld4 => ?_)
    clear hK K
    (try simp only [Act.put, u1, u2, u3])
    refine wpAnyH_done (by kernel_rfl) ?_ _
    clear r0 r1 f0 f1 hSa hSb
    generalize (((z1.setCell ⟨w.heap.size, 0, none⟩ (.slice (cAt l 0).va 4 (cAt l 0).vc)).setCell ⟨w.heap.size, 1, none⟩ (.slice (cAt l 0).oa (cAt l 0).no (cAt l 0).oc)).setCell ⟨w.heap.size + 1, 0, none⟩ (.slice pv vs.length pc)).setCell ⟨w.heap.size + 1, 1, none⟩ (.slice po pm pk) = wf at HRa HRb HX HI HO HBl ⊢
    obtain ⟨p0, p1⟩ := pair_cells HRa.out
    obtain ⟨p2, p3⟩ := pair_cells HRb.out
    go_wp2
    exact bodyPost_ret (v := .tuple #[.agg #[.slice (cAt l 0).va 4 (cAt l 0).vc, .slice (cAt l 0).oa (cAt l 0).no (cAt l 0).oc], .agg #[.slice pv vs.length pc, .slice po pm pk]]) (by simp [results, Try.results15, go_sem, p0, p1, p2, p3]) rfl ⟨cAt l 0, pv, vs.length, pc, po, pm, pk, vs, m, hlv, hlo, hcpk, hit, rfl, HX.out, HI.out, HO.out, HBl.out⟩
   ·skip
    refine tk 3 ⟨some 37, .indexAddr 86 (.tmp 34) (.tmp 36), 0, "l07_deltas.go:118", #[⟨0, .data⟩, ⟨2, .data⟩], none⟩ ?_
    (try simp only [Act.put, u1, u2, u3])
    refine tk 4 ⟨some 38, .load 29 (.tmp 37), 29, "l07_deltas.go:118", #[⟨3, .data⟩], none⟩ ?_
    (try simp only [Act.put, u1, u2, u3])
    have hx : Crw z1 w.heap.size z1.heap.size (cAt l 1) := (CrtC.weak (HLz1.out.row.crt 1 (by rw [HLz1.out.num]; omega))).more (by have := HD1.out.bel.size; omega) (Nat.le_refl _)
    obtain ⟨HRa, HRb, HX, HI, HO, HBl⟩ := out_tp HD.out hx HIz1.out HOz1.out (by omega)
    obtain ⟨r0, r1⟩ := pair_cells HD.out.ra
    obtain ⟨f0, f1⟩ := pair_frozen HD.out.ra
    have hSa : ((z1.setCell ⟨w.heap.size, 0, none⟩ (.slice (cAt l 1).va 4 (cAt l 1).vc)).setCell ⟨w.heap.size, 1, none⟩ (.slice (cAt l 1).oa (cAt l 1).no (cAt l 1).oc)).cell? ⟨q, 0, none⟩ = some (.slice (cAt l 0).va 4 (cAt l 0).vc) ∧ ((z1.setCell ⟨w.heap.size, 0, none⟩ (.slice (cAt l 1).va 4 (cAt l 1).vc)).setCell ⟨w.heap.size, 1, none⟩ (.slice (cAt l 1).oa (cAt l 1).no (cAt l 1).oc)).cell? ⟨q, 1, none⟩ = some (.slice (cAt l 0).oa (cAt l 0).no (cAt l 0).oc) ∧ ((z1.setCell ⟨w.heap.size, 0, none⟩ (.slice (cAt l 1).va 4 (cAt l 1).vc)).setCell ⟨w.heap.size, 1, none⟩ (.slice (cAt l 1).oa (cAt l 1).no (cAt l 1).oc)).cell? ⟨q, 2, none⟩ = some (.slice (cAt l 1).va 4 (cAt l 1).vc) ∧ ((z1.setCell ⟨w.heap.size, 0, none⟩ (.slice (cAt l 1).va 4 (cAt l 1).vc)).setCell ⟨w.heap.size, 1, none⟩ (.slice (cAt l 1).oa (cAt l 1).no (cAt l 1).oc)).cell? ⟨q, 3, none⟩ = some (.slice (cAt l 1).oa (cAt l 1).no (cAt l 1).oc) ∧ ((z1.setCell ⟨w.heap.size, 0, none⟩ (.slice (cAt l 1).va 4 (cAt l 1).vc)).setCell ⟨w.heap.size, 1, none⟩ (.slice (cAt l 1).oa (cAt l 1).no (cAt l 1).oc)).cell? ⟨q, 4, none⟩ = some (.slice (cAt l 2).va 4 (cAt l 2).vc) ∧ ((z1.setCell ⟨w.heap.size, 0, none⟩ (.slice (cAt l 1).va 4 (cAt l 1).vc)).setCell ⟨w.heap.size, 1, none⟩ (.slice (cAt l 1).oa (cAt l 1).no (cAt l 1).oc)).cell? ⟨q, 5, none⟩ = some (.slice (cAt l 2).oa (cAt l 2).no (cAt l 2).oc) ∧ ((z1.setCell ⟨w.heap.size, 0, none⟩ (.slice (cAt l 1).va 4 (cAt l 1).vc)).setCell ⟨w.heap.size, 1, none⟩ (.slice (cAt l 1).oa (cAt l 1).no (cAt l 1).oc)).cell? ⟨P, 0, none⟩ = some (.slice pv vs.length pc) ∧ ((z1.setCell ⟨w.heap.size, 0, none⟩ (.slice (cAt l 1).va 4 (cAt l 1).vc)).setCell ⟨w.heap.size, 1, none⟩ (.slice (cAt l 1).oa (cAt l 1).no (cAt l 1).oc)).cell? ⟨P, 1, none⟩ = some (.slice po pm pk) := ⟨(World.cell?_of_block (a := ⟨q, 0, none⟩) (pair_other _ _ hwq)).trans Sz1.1, (World.cell?_of_block (a := ⟨q, 1, none⟩) (pair_other _ _ hwq)).trans Sz1.2.1, (World.cell?_of_block (a := ⟨q, 2, none⟩) (pair_other _ _ hwq)).trans Sz1.2.2.1, (World.cell?_of_block (a := ⟨q, 3, none⟩) (pair_other _ _ hwq)).trans Sz1.2.2.2.1, (World.cell?_of_block (a := ⟨q, 4, none⟩) (pair_other _ _ hwq)).trans Sz1.2.2.2.2.1, (World.cell?_of_block (a := ⟨q, 5, none⟩) (pair_other _ _ hwq)).trans Sz1.2.2.2.2.2.1, (World.cell?_of_block (a := ⟨P, 0, none⟩) (pair_other _ _ hwp)).trans Sz1.2.2.2.2.2.2.1, (World.cell?_of_block (a := ⟨P, 1, none⟩) (pair_other _ _ hwp)).trans Sz1.2.2.2.2.2.2.2⟩
    refine rk 6 rfl (fun K hK => ?_)
    go_simp
    refine hK.out _ _ hSa (fun hHeld3 => ?_)
    clear hK K
    (try simp only [Act.put, u1, u2, u3])
    clear r0 r1 f0 f1
    have hrb : ((z1.setCell ⟨w.heap.size, 0, none⟩ (.slice (cAt l 1).va 4 (cAt l 1).vc)).setCell ⟨w.heap.size, 1, none⟩ (.slice (cAt l 1).oa (cAt l 1).no (cAt l 1).oc)).heap[w.heap.size + 1]? = _ := (pair_other _ _ (by omega)).trans HD.out.rb
    obtain ⟨r0, r1⟩ := pair_cells hrb
    obtain ⟨f0, f1⟩ := pair_frozen hrb
    clear hrb
    have hSb : ((((z1.setCell ⟨w.heap.size, 0, none⟩ (.slice (cAt l 1).va 4 (cAt l 1).vc)).setCell ⟨w.heap.size, 1, none⟩ (.slice (cAt l 1).oa (cAt l 1).no (cAt l 1).oc)).setCell ⟨w.heap.size + 1, 0, none⟩ (.slice pv vs.length pc)).setCell ⟨w.heap.size + 1, 1, none⟩ (.slice po pm pk)).cell? ⟨q, 0, none⟩ = some (.slice (cAt l 0).va 4 (cAt l 0).vc) ∧ ((((z1.setCell ⟨w.heap.size, 0, none⟩ (.slice (cAt l 1).va 4 (cAt l 1).vc)).setCell ⟨w.heap.size, 1, none⟩ (.slice (cAt l 1).oa (cAt l 1).no (cAt l 1).oc)).setCell ⟨w.heap.size + 1, 0, none⟩ (.slice pv vs.length pc)).setCell ⟨w.heap.size + 1, 1, none⟩ (.slice po pm pk)).cell? ⟨q, 1, none⟩ = some (.slice (cAt l 0).oa (cAt l 0).no (cAt l 0).oc) ∧ ((((z1.setCell ⟨w.heap.size, 0, none⟩ (.slice (cAt l 1).va 4 (cAt l 1).vc)).setCell ⟨w.heap.size, 1, none⟩ (.slice (cAt l 1).oa (cAt l 1).no (cAt l 1).oc)).setCell ⟨w.heap.size + 1, 0, none⟩ (.slice pv vs.length pc)).setCell ⟨w.heap.size + 1, 1, none⟩ (.slice po pm pk)).cell? ⟨q, 2, none⟩ = some (.slice (cAt l 1).va 4 (cAt l 1).vc) ∧ ((((z1.setCell ⟨w.heap.size, 0, none⟩ (.slice (cAt l 1).va 4 (cAt l 1).vc)).setCell ⟨w.heap.size, 1, none⟩ (.slice (cAt l 1).oa (cAt l 1).no (cAt l 1).oc)).setCell ⟨w.heap.size + 1, 0, none⟩ (.slice pv vs.length pc)).setCell ⟨w.heap.size + 1, 1, none⟩ (.slice po pm pk)).cell? ⟨q, 3, none⟩ = some (.slice (cAt l 1).oa (cAt l 1).no (cAt l 1).oc) ∧ ((((z1.setCell ⟨w.heap.size, 0, none⟩ (.slice (cAt l 1).va 4 (cAt l 1).vc)).setCell ⟨w.heap.size, 1, none⟩ (.slice (cAt l 1).oa (cAt l 1).no (cAt l 1).oc)).setCell ⟨w.heap.size + 1, 0, none⟩ (.slice pv vs.length pc)).setCell ⟨w.heap.size + 1, 1, none⟩ (.slice po pm pk)).cell? ⟨q, 4, none⟩ = some (.slice (cAt l 2).va 4 (cAt l 2).vc) ∧ ((((z1.setCell ⟨w.heap.size, 0, none⟩ (.slice (cAt l 1).va 4 (cAt l 1).vc)).setCell ⟨w.heap.size, 1, none⟩ (.slice (cAt l 1).oa (cAt l 1).no (cAt l 1).oc)).setCell ⟨w.heap.size + 1, 0, none⟩ (.slice pv vs.length pc)).setCell ⟨w.heap.size + 1, 1, none⟩ (.slice po pm pk)).cell? ⟨q, 5, none⟩ = some (.slice (cAt l 2).oa (cAt l 2).no (cAt l 2).oc) ∧ ((((z1.setCell ⟨w.heap.size, 0, none⟩ (.slice (cAt l 1).va 4 (cAt l 1).vc)).setCell ⟨w.heap.size, 1, none⟩ (.slice (cAt l 1).oa (cAt l 1).no (cAt l 1).oc)).setCell ⟨w.heap.size + 1, 0, none⟩ (.slice pv vs.length pc)).setCell ⟨w.heap.size + 1, 1, none⟩ (.slice po pm pk)).cell? ⟨P, 0, none⟩ = some (.slice pv vs.length pc) ∧ ((((z1.setCell ⟨w.heap.size, 0, none⟩ (.slice (cAt l 1).va 4 (cAt l 1).vc)).setCell ⟨w.heap.size, 1, none⟩ (.slice (cAt l 1).oa (cAt l 1).no (cAt l 1).oc)).setCell ⟨w.heap.size + 1, 0, none⟩ (.slice pv vs.length pc)).setCell ⟨w.heap.size + 1, 1, none⟩ (.slice po pm pk)).cell? ⟨P, 1, none⟩ = some (.slice po pm pk) := ⟨(World.cell?_of_block (a := ⟨q, 0, none⟩) (pair_other _ _ hwq2)).trans hSa.1, (World.cell?_of_block (a := ⟨q, 1, none⟩) (pair_other _ _ hwq2)).trans hSa.2.1, (World.cell?_of_block (a := ⟨q, 2, none⟩) (pair_other _ _ hwq2)).trans hSa.2.2.1, (World.cell?_of_block (a := ⟨q, 3, none⟩) (pair_other _ _ hwq2)).trans hSa.2.2.2.1, (World.cell?_of_block (a := ⟨q, 4, none⟩) (pair_other _ _ hwq2)).trans hSa.2.2.2.2.1, (World.cell?_of_block (a := ⟨q, 5, none⟩) (pair_other _ _ hwq2)).trans hSa.2.2.2.2.2.1, (World.cell?_of_block (a := ⟨P, 0, none⟩) (pair_other _ _ hwp2)).trans hSa.2.2.2.2.2.2.1, (World.cell?_of_block (a := ⟨P, 1, none⟩) (pair_other _ _ hwp2)).trans hSa.2.2.2.2.2.2.2⟩
    refine rk 7 rfl (fun K hK => ?_)
    go_simp
    refine hK.out _ _ hSb (fun hHeld4 => ?_)
    clear hK K
    (try simp only [Act.put, u1, u2, u3])
    refine wpAnyH_done (by kernel_rfl) ?_ _
    clear r0 r1 f0 f1 hSa hSb
    generalize (((z1.setCell ⟨w.heap.size, 0, none⟩ (.slice (cAt l 1).va 4 (cAt l 1).vc)).setCell ⟨w.heap.size, 1, none⟩ (.slice (cAt l 1).oa (cAt l 1).no (cAt l 1).oc)).setCell ⟨w.heap.size + 1, 0, none⟩ (.slice pv vs.length pc)).setCell ⟨w.heap.size + 1, 1, none⟩ (.slice po pm pk) = wf at HRa HRb HX HI HO HBl ⊢
    obtain ⟨p0, p1⟩ := pair_cells HRa.out
    obtain ⟨p2, p3⟩ := pair_cells HRb.out
    go_wp2
    exact bodyPost_ret (v := .tuple #[.agg #[.slice (cAt l 1).va 4 (cAt l 1).vc, .slice (cAt l 1).oa (cAt l 1).no (cAt l 1).oc], .agg #[.slice pv vs.length pc, .slice po pm pk]]) (by simp [results, Try.results15, go_sem, p0, p1, p2, p3]) rfl ⟨cAt l 1, pv, vs.length, pc, po, pm, pk, vs, m, hlv, hlo, hcpk, hit, rfl, HX.out, HI.out, HO.out, HBl.out⟩
   ·skip
    refine tk 3 ⟨some 37, .indexAddr 86 (.tmp 34) (.tmp 36), 0, "l07_deltas.go:118", #[⟨0, .data⟩, ⟨2, .data⟩], none⟩ ?_
    (try simp only [Act.put, u1, u2, u3])
    refine tk 4 ⟨some 38, .load 29 (.tmp 37), 29, "l07_deltas.go:118", #[⟨3, .data⟩], none⟩ ?_
    (try simp only [Act.put, u1, u2, u3])
    have hx : Crw z1 w.heap.size z1.heap.size (cAt l 2) := (CrtC.weak (HLz1.out.row.crt 2 (by rw [HLz1.out.num]; omega))).more (by have := HD1.out.bel.size; omega) (Nat.le_refl _)
    obtain ⟨HRa, HRb, HX, HI, HO, HBl⟩ := out_tp HD.out hx HIz1.out HOz1.out (by omega)
    obtain ⟨r0, r1⟩ := pair_cells HD.out.ra
    obtain ⟨f0, f1⟩ := pair_frozen HD.out.ra
    have hSa : ((z1.setCell ⟨w.heap.size, 0, none⟩ (.slice (cAt l 2).va 4 (cAt l 2).vc)).setCell ⟨w.heap.size, 1, none⟩ (.slice (cAt l 2).oa (cAt l 2).no (cAt l 2).oc)).cell? ⟨q, 0, none⟩ = some (.slice (cAt l 0).va 4 (cAt l 0).vc) ∧ ((z1.setCell ⟨w.heap.size, 0, none⟩ (.slice (cAt l 2).va 4 (cAt l 2).vc)).setCell ⟨w.heap.size, 1, none⟩ (.slice (cAt l 2).oa (cAt l 2).no (cAt l 2).oc)).cell? ⟨q, 1, none⟩ = some (.slice (cAt l 0).oa (cAt l 0).no (cAt l 0).oc) ∧ ((z1.setCell ⟨w.heap.size, 0, none⟩ (.slice (cAt l 2).va 4 (cAt l 2).vc)).setCell ⟨w.heap.size, 1, none⟩ (.slice (cAt l 2).oa (cAt l 2).no (cAt l 2).oc)).cell? ⟨q, 2, none⟩ = some (.slice (cAt l 1).va 4 (cAt l 1).vc) ∧ ((z1.setCell ⟨w.heap.size, 0, none⟩ (.slice (cAt l 2).va 4 (cAt l 2).vc)).setCell ⟨w.heap.size, 1, none⟩ (.slice (cAt l 2).oa (cAt l 2).no (cAt l 2).oc)).cell? ⟨q, 3, none⟩ = some (.slice (cAt l 1).oa (cAt l 1).no (cAt l 1).oc) ∧ ((z1.setCell ⟨w.heap.size, 0, none⟩ (.slice (cAt l 2).va 4 (cAt l 2).vc)).setCell ⟨w.heap.size, 1, none⟩ (.slice (cAt l 2).oa (cAt l 2).no (cAt l 2).oc)).cell? ⟨q, 4, none⟩ = some (.slice (cAt l 2).va 4 (cAt l 2).vc) ∧ ((z1.setCell ⟨w.heap.size, 0, none⟩ (.slice (cAt l 2).va 4 (cAt l 2).vc)).setCell ⟨w.heap.size, 1, none⟩ (.slice (cAt l 2).oa (cAt l 2).no (cAt l 2).oc)).cell? ⟨q, 5, none⟩ = some (.slice (cAt l 2).oa (cAt l 2).no (cAt l 2).oc) ∧ ((z1.setCell ⟨w.heap.size, 0, none⟩ (.slice (cAt l 2).va 4 (cAt l 2).vc)).setCell ⟨w.heap.size, 1, none⟩ (.slice (cAt l 2).oa (cAt l 2).no (cAt l 2).oc)).cell? ⟨P, 0, none⟩ = some (.slice pv vs.length pc) ∧ ((z1.setCell ⟨w.heap.size, 0, none⟩ (.slice (cAt l 2).va 4 (cAt l 2).vc)).setCell ⟨w.heap.size, 1, none⟩ (.slice (cAt l 2).oa (cAt l 2).no (cAt l 2).oc)).cell? ⟨P, 1, none⟩ = some (.slice po pm pk) := ⟨(World.cell?_of_block (a := ⟨q, 0, none⟩) (pair_other _ _ hwq)).trans Sz1.1, (World.cell?_of_block (a := ⟨q, 1, none⟩) (pair_other _ _ hwq)).trans Sz1.2.1, (World.cell?_of_block (a := ⟨q, 2, none⟩) (pair_other _ _ hwq)).trans Sz1.2.2.1, (World.cell?_of_block (a := ⟨q, 3, none⟩) (pair_other _ _ hwq)).trans Sz1.2.2.2.1, (World.cell?_of_block (a := ⟨q, 4, none⟩) (pair_other _ _ hwq)).trans Sz1.2.2.2.2.1, (World.cell?_of_block (a := ⟨q, 5, none⟩) (pair_other _ _ hwq)).trans Sz1.2.2.2.2.2.1, (World.cell?_of_block (a := ⟨P, 0, none⟩) (pair_other _ _ hwp)).trans Sz1.2.2.2.2.2.2.1, (World.cell?_of_block (a := ⟨P, 1, none⟩) (pair_other _ _ hwp)).trans Sz1.2.2.2.2.2.2.2⟩
    refine rk 6 rfl (fun K hK => ?_)
    go_simp
    refine hK.out _ _ hSa (fun hHeld3 => ?_)
    clear hK K
    (try simp only [Act.put, u1, u2, u3])
    clear r0 r1 f0 f1
    have hrb : ((z1.setCell ⟨w.heap.size, 0, none⟩ (.slice (cAt l 2).va 4 (cAt l 2).vc)).setCell ⟨w.heap.size, 1, none⟩ (.slice (cAt l 2).oa (cAt l 2).no (cAt l 2).oc)).heap[w.heap.size + 1]? = _ := (pair_other _ _ (by omega)).trans HD.out.rb
    obtain ⟨r0, r1⟩ := pair_cells hrb
    obtain ⟨f0, f1⟩ := pair_frozen hrb
    clear hrb
    have hSb : ((((z1.setCell ⟨w.heap.size, 0, none⟩ (.slice (cAt l 2).va 4 (cAt l 2).vc)).setCell ⟨w.heap.size, 1, none⟩ (.slice (cAt l 2).oa (cAt l 2).no (cAt l 2).oc)).setCell ⟨w.heap.size + 1, 0, none⟩ (.slice pv vs.length pc)).setCell ⟨w.heap.size + 1, 1, none⟩ (.slice po pm pk)).cell? ⟨q, 0, none⟩ = some (.slice (cAt l 0).va 4 (cAt l 0).vc) ∧ ((((z1.setCell ⟨w.heap.size, 0, none⟩ (.slice (cAt l 2).va 4 (cAt l 2).vc)).setCell ⟨w.heap.size, 1, none⟩ (.slice (cAt l 2).oa (cAt l 2).no (cAt l 2).oc)).setCell ⟨w.heap.size + 1, 0, none⟩ (.slice pv vs.length pc)).setCell ⟨w.heap.size + 1, 1, none⟩ (.slice po pm pk)).cell? ⟨q, 1, none⟩ = some (.slice (cAt l 0).oa (cAt l 0).no (cAt l 0).oc) ∧ ((((z1.setCell ⟨w.heap.size, 0, none⟩ (.slice (cAt l 2).va 4 (cAt l 2).vc)).setCell ⟨w.heap.size, 1, none⟩ (.slice (cAt l 2).oa (cAt l 2).no (cAt l 2).oc)).setCell ⟨w.heap.size + 1, 0, none⟩ (.slice pv vs.length pc)).setCell ⟨w.heap.size + 1, 1, none⟩ (.slice po pm pk)).cell? ⟨q, 2, none⟩ = some (.slice (cAt l 1).va 4 (cAt l 1).vc) ∧ ((((z1.setCell ⟨w.heap.size, 0, none⟩ (.slice (cAt l 2).va 4 (cAt l 2).vc)).setCell ⟨w.heap.size, 1, none⟩ (.slice (cAt l 2).oa (cAt l 2).no (cAt l 2).oc)).setCell ⟨w.heap.size + 1, 0, none⟩ (.slice pv vs.length pc)).setCell ⟨w.heap.size + 1, 1, none⟩ (.slice po pm pk)).cell? ⟨q, 3, none⟩ = some (.slice (cAt l 1).oa (cAt l 1).no (cAt l 1).oc) ∧ ((((z1.setCell ⟨w.heap.size, 0, none⟩ (.slice (cAt l 2).va 4 (cAt l 2).vc)).setCell ⟨w.heap.size, 1, none⟩ (.slice (cAt l 2).oa (cAt l 2).no (cAt l 2).oc)).setCell ⟨w.heap.size + 1, 0, none⟩ (.slice pv vs.length pc)).setCell ⟨w.heap.size + 1, 1, none⟩ (.slice po pm pk)).cell? ⟨q, 4, none⟩ = some (.slice (cAt l 2).va 4 (cAt l 2).vc) ∧ ((((z1.setCell ⟨w.heap.size, 0, none⟩ (.slice (cAt l 2).va 4 (cAt l 2).vc)).setCell ⟨w.heap.size, 1, none⟩ (.slice (cAt l 2).oa (cAt l 2).no (cAt l 2).oc)).setCell ⟨w.heap.size + 1, 0, none⟩ (.slice pv vs.length pc)).setCell ⟨w.heap.size + 1, 1, none⟩ (.slice po pm pk)).cell? ⟨q, 5, none⟩ = some (.slice (cAt l 2).oa (cAt l 2).no (cAt l 2).oc) ∧ ((((z1.setCell ⟨w.heap.size, 0, none⟩ (.slice (cAt l 2).va 4 (cAt l 2).vc)).setCell ⟨w.heap.size, 1, none⟩ (.slice (cAt l 2).oa (cAt l 2).no (cAt l 2).oc)).setCell ⟨w.heap.size + 1, 0, none⟩ (.slice pv vs.length pc)).setCell ⟨w.heap.size + 1, 1, none⟩ (.slice po pm pk)).cell? ⟨P, 0, none⟩ = some (.slice pv vs.length pc) ∧ ((((z1.setCell ⟨w.heap.size, 0, none⟩ (.slice (cAt l 2).va 4 (cAt l 2).vc)).setCell ⟨w.heap.size, 1, none⟩ (.slice (cAt l 2).oa (cAt l 2).no (cAt l 2).oc)).setCell ⟨w.heap.size + 1, 0, none⟩ (.slice pv vs.length pc)).setCell ⟨w.heap.size + 1, 1, none⟩ (.slice po pm pk)).cell? ⟨P, 1, none⟩ = some (.slice po pm pk) := ⟨(World.cell?_of_block (a := ⟨q, 0, none⟩) (pair_other _ _ hwq2)).trans hSa.1, (World.cell?_of_block (a := ⟨q, 1, none⟩) (pair_other _ _ hwq2)).trans hSa.2.1, (World.cell?_of_block (a := ⟨q, 2, none⟩) (pair_other _ _ hwq2)).trans hSa.2.2.1, (World.cell?_of_block (a := ⟨q, 3, none⟩) (pair_other _ _ hwq2)).trans hSa.2.2.2.1, (World.cell?_of_block (a := ⟨q, 4, none⟩) (pair_other _ _ hwq2)).trans hSa.2.2.2.2.1, (World.cell?_of_block (a := ⟨q, 5, none⟩) (pair_other _ _ hwq2)).trans hSa.2.2.2.2.2.1, (World.cell?_of_block (a := ⟨P, 0, none⟩) (pair_other _ _ hwp2)).trans hSa.2.2.2.2.2.2.1, (World.cell?_of_block (a := ⟨P, 1, none⟩) (pair_other _ _ hwp2)).trans hSa.2.2.2.2.2.2.2⟩
    refine rk 7 rfl (fun K hK => ?_)
    go_simp
    refine hK.out _ _ hSb (fun hHeld4 => ?_)
    clear hK K
    (try simp only [Act.put, u1, u2, u3])
    refine wpAnyH_done (by kernel_rfl) ?_ _
    clear r0 r1 f0 f1 hSa hSb
    generalize (((z1.setCell ⟨w.heap.size, 0, none⟩ (.slice (cAt l 2).va 4 (cAt l 2).vc)).setCell ⟨w.heap.size, 1, none⟩ (.slice (cAt l 2).oa (cAt l 2).no (cAt l 2).oc)).setCell ⟨w.heap.size + 1, 0, none⟩ (.slice pv vs.length pc)).setCell ⟨w.heap.size + 1, 1, none⟩ (.slice po pm pk) = wf at HRa HRb HX HI HO HBl ⊢
    obtain ⟨p0, p1⟩ := pair_cells HRa.out
    obtain ⟨p2, p3⟩ := pair_cells HRb.out
    go_wp2
    exact bodyPost_ret (v := .tuple #[.agg #[.slice (cAt l 2).va 4 (cAt l 2).vc, .slice (cAt l 2).oa (cAt l 2).no (cAt l 2).oc], .agg #[.slice pv vs.length pc, .slice po pm pk]]) (by simp [results, Try.results15, go_sem, p0, p1, p2, p3]) rfl ⟨cAt l 2, pv, vs.length, pc, po, pm, pk, vs, m, hlv, hlo, hcpk, hit, rfl, HX.out, HI.out, HO.out, HBl.out⟩
  cases o1
  ·go_wp2
   exact hKt _ _ _ os _ _ _ _ _ _ _ _ _ _ _ _ _ _ _ _ _ _ _ _ _ _ _ _ hcpk hlo HIt.out HL4 HP4 HI4 HO4
  obtain ⟨c0, c1⟩ := pair_cells HP4.out
  by_cases h0 : 0 < os.length
  rotate_left
  ·have hz : ¬ ((0 : Int) < (os.length : Int)) := by omega
   go_wp2
   exact hKt _ _ _ os _ _ _ _ _ _ _ _ _ _ _ _ _ _ _ _ _ _ _ _ _ _ _ _ hcpk hlo HIt.out HL4 HP4 HI4 HO4
  have hz : (0 : Int) < (os.length : Int) := by omega
  obtain ⟨pb, pf, rfl, -, -⟩ := HO4.out.1.2 0 h0
  obtain ⟨f0, f1⟩ := pair_frozen HP4.out
  have hz1 : (1 : Int) ≤ (os.length : Int) := by omega
  have hz2 : (os.length : Int) ≤ (pk : Int) := by omega
  have HOt := Lib.hid (HO4.out.tail h0 hcpk)
  have HL5 := Lib.hid (HL4.out.box (.slice pv vs.length pc) (.slice (if pk = 1 then some ⟨pb, pf, none⟩ else some ⟨pb, pf + 8, none⟩) (os.length - 1) (pk - 1)) HP4.out hpw hpq)
  have HP5 : Hid (((w4.setCell ⟨P, 0, none⟩ (.slice pv vs.length pc)).setCell ⟨P, 1, none⟩ (.slice (if pk = 1 then some ⟨pb, pf, none⟩ else some ⟨pb, pf + 8, none⟩) (os.length - 1) (pk - 1))).heap[P]? = some (.cells #[.slice pv vs.length pc, .slice (if pk = 1 then some ⟨pb, pf, none⟩ else some ⟨pb, pf + 8, none⟩) (os.length - 1) (pk - 1)] 29 (0, 0))) := pair_set _ _ HP4.out
  have hw5 := pair_size w4 P (.slice pv vs.length pc) (.slice (if pk = 1 then some ⟨pb, pf, none⟩ else some ⟨pb, pf + 8, none⟩) (os.length - 1) (pk - 1))
  have HI5 := Lib.hid (HI4.out.kept (fun j _ _ h => pair_other (k := j) (.slice pv vs.length pc) (.slice (if pk = 1 then some ⟨pb, pf, none⟩ else some ⟨pb, pf + 8, none⟩) (os.length - 1) (pk - 1)) h) (Nat.le_of_eq hw5.symm))
  have HO5 := Lib.hid (HOt.out.kept (fun j _ _ h => pair_other (k := j) (.slice pv vs.length pc) (.slice (if pk = 1 then some ⟨pb, pf, none⟩ else some ⟨pb, pf + 8, none⟩) (os.length - 1) (pk - 1)) h) (Nat.le_of_eq hw5.symm))
  rw [setCell_own HP4.out] at HL5 HP5 HI5 HO5
  by_cases hk1 : pk = 1
  ·rw [if_pos hk1] at HL5 HP5 HI5 HO5
   subst hk1
   have h01 : os.length - 1 = 0 := by omega
   rw [h01] at HL5 HP5 HI5 HO5
   go_wp2
   exact hKt _ 0 0 (os.drop 1) _ _ _ _ _ _ _ _ _ _ _ _ _ _ _ _ _ _ _ _ _ _ _ _ (Nat.le_refl _) (by omega) (fun i hi => absurd hi (by omega)) HL5 HP5 HI5 HO5
  ·rw [if_neg hk1] at HL5 HP5 HI5 HO5
   go_wp2
   exact hKt _ _ _ (os.drop 1) _ _ _ _ _ _ _ _ _ _ _ _ _ _ _ _ _ _ _ _ _ _ _ _ (by omega) (by omega) (fun i hi => by rw [drop_at]; exact HIt.out _ (by omega)) HL5 HP5 HI5 HO5
 obtain ⟨z0, hz0e⟩ : ∃ z0, w2.drew = z0 := ⟨_, rfl⟩
 have g0 : Below w2.heap.size w2 z0 := by rw [← hz0e]; exact ⟨rfl, rfl, rfl, Nat.le_refl _, fun _ _ => rfl⟩
 have HLz0 := Lib.hid (HL2.out.below g0)
 have Sz0 : z0.cell? ⟨q, 0, none⟩ = some (.slice (cAt l 0).va 4 (cAt l 0).vc) ∧ z0.cell? ⟨q, 1, none⟩ = some (.slice (cAt l 0).oa (cAt l 0).no (cAt l 0).oc) ∧ z0.cell? ⟨q, 2, none⟩ = some (.slice (cAt l 1).va 4 (cAt l 1).vc) ∧ z0.cell? ⟨q, 3, none⟩ = some (.slice (cAt l 1).oa (cAt l 1).no (cAt l 1).oc) := ⟨(HLz0.out.cell 0 (by omega)).1, (HLz0.out.cell 0 (by omega)).2, (HLz0.out.cell 1 (by omega)).1, (HLz0.out.cell 1 (by omega)).2⟩
 obtain ⟨xs, l0, ex, a1, a2, a3, a4, a5, a6⟩ := CrtC.weak (HLz0.out.row.crt 0 (by rw [HLz0.out.num]; omega))
 obtain ⟨ys, m0, ey, b1, b2, b3, b4, b5, b6⟩ := CrtC.weak (HLz0.out.row.crt 1 (by rw [HLz0.out.num]; omega))
 have HA := Lib.hid a1.ints
 have HB := Lib.hid b1.ints
 have HAo : Hid (Ops z0 z0.heap.size (cAt l 0).oa (cAt l 0).no l0) := by show Ops _ _ _ _ _; rw [ex]; exact a2.ops
 have HBo : Hid (Ops z0 z0.heap.size (cAt l 1).oa (cAt l 1).no m0) := by show Ops _ _ _ _ _; rw [ey]; exact b2.ops
 have HIa : Hid (∀ i, i < (cAt l 0).no → (atOp l0 i).item.size ≤ 1048576) := fun i hi => Nat.le_trans (a5 i (by omega)) (by omega)
 have HIb : Hid (∀ i, i < (cAt l 1).no → (atOp m0 i).item.size ≤ 1048576) := fun i hi => Nat.le_trans (b5 i (by omega)) (by omega)
 obtain ⟨R, hR⟩ : ∃ R, mergedB xs l0 ys m0 = R := ⟨_, rfl⟩
 obtain ⟨vs, hvs⟩ : ∃ vs, delVs xs R = vs := ⟨_, rfl⟩
 obtain ⟨os, hos⟩ : ∃ os, delOs l0 m0 R = os := ⟨_, rfl⟩
 have HR := Lib.hid hR
 have HVs := Lib.hid hvs
 have HOs := Lib.hid hos
 have hlv : vs.length ≤ 4 := by rw [← hvs]; exact delVs_len (Nat.le_of_eq a1.1) R
 have hlo : os.length ≤ 400 := by rw [← hos]; exact delOs_len a6 R
 have HIt : Hid (∀ i, i < os.length → (atOp os i).item.size ≤ 8) := by show ∀ i, _; rw [← hos]; exact delOs_items R a5
 have hna : (cAt l 0).no ≤ 400 := by omega
 have hnb : (cAt l 1).no ≤ 400 := by omega
 clear hR hvs hos a1 a2 a3 a4 a5 a6 b1 b2 b3 b4 b5 b6 ex ey
 refine wp_region_held_drew (S := fun w' => w'.cell? ⟨q, 0, none⟩ = some (.slice (cAt l 0).va 4 (cAt l 0).vc) ∧ w'.cell? ⟨q, 1, none⟩ = some (.slice (cAt l 0).oa (cAt l 0).no (cAt l 0).oc) ∧ w'.cell? ⟨q, 2, none⟩ = some (.slice (cAt l 1).va 4 (cAt l 1).vc) ∧ w'.cell? ⟨q, 3, none⟩ = some (.slice (cAt l 1).oa (cAt l 1).no (cAt l 1).oc)) (by kernel_rfl) (by rw [hz0e]; exact Sz0) (fun hHeld => ?_)
 rw [hz0e]
 clear hHeld hz0e
 refine tk 0 ⟨some 13, .move (.tmp 5), 86, "l07_deltas.go:114", #[], none⟩ ?_
 (try simp only [Act.put, u1, u2, u3])
 refine tk 1 ⟨some 14, .indexAddr 86 (.tmp 13) (.const (Value.int IntKind.i64 0)), 0, "l07_deltas.go:114", #[⟨0, .data⟩], none⟩ ?_
 (try simp only [Act.put, u1, u2, u3])
 refine tk 2 ⟨some 15, .load 29 (.tmp 14), 29, "l07_deltas.go:114", #[⟨1, .data⟩], none⟩ ?_
 (try simp only [Act.put, u1, u2, u3])
 refine tk 3 ⟨some 16, .move (.tmp 5), 86, "l07_deltas.go:114", #[], none⟩ ?_
 (try simp only [Act.put, u1, u2, u3])
 refine tk 4 ⟨some 17, .indexAddr 86 (.tmp 16) (.const (Value.int IntKind.i64 1)), 0, "l07_deltas.go:114", #[⟨3, .data⟩], none⟩ ?_
 (try simp only [Act.put, u1, u2, u3])
 refine tk 5 ⟨some 18, .load 29 (.tmp 17), 29, "l07_deltas.go:114", #[⟨4, .data⟩], none⟩ ?_
 (try simp only [Act.put, u1, u2, u3])
 refine wpAnyH_ready (rs := [6, 10]) (by kernel_rfl) (by simp) ?_
 refine AllReadyH.cons rfl (fun K hK => ?_) (AllReadyH.cons rfl (fun K hK => ?_) AllReadyH.nil)
 ·skip
  go_simp
  go_at_call 22
  have hc := specDeltaK z0 z0.heap.size (cAt l 0).va (cAt l 0).oa (cAt l 1).va (cAt l 1).oa 4 (cAt l 0).vc (cAt l 0).no (cAt l 0).oc 4 (cAt l 1).vc (cAt l 1).no (cAt l 1).oc xs l0 ys m0 HA.out HAo.out HB.out HBo.out (by have := g0.size; omega) (by omega) (by omega) HIa.out (by omega) (by omega) HIb.out
  rw [HR.out, HVs.out, HOs.out] at hc
  refine hc.mono ?_
  clear hc
  rintro e z1 ⟨pv, pc, po, pk, rfl, hov, hop, tz1, hcp⟩
  have Sz1 : z1.cell? ⟨q, 0, none⟩ = some (.slice (cAt l 0).va 4 (cAt l 0).vc) ∧ z1.cell? ⟨q, 1, none⟩ = some (.slice (cAt l 0).oa (cAt l 0).no (cAt l 0).oc) ∧ z1.cell? ⟨q, 2, none⟩ = some (.slice (cAt l 1).va 4 (cAt l 1).vc) ∧ z1.cell? ⟨q, 3, none⟩ = some (.slice (cAt l 1).oa (cAt l 1).no (cAt l 1).oc) := ⟨(tz1.cell (block_lt_of_cell Sz0.1)).trans Sz0.1, (tz1.cell (block_lt_of_cell Sz0.2.1)).trans Sz0.2.1, (tz1.cell (block_lt_of_cell Sz0.2.2.1)).trans Sz0.2.2.1, (tz1.cell (block_lt_of_cell Sz0.2.2.2)).trans Sz0.2.2.2⟩
  have HLz1 := Lib.hid (HLz0.out.below tz1)
  refine hK.out _ _ Sz1 (fun hHeld4 => ?_)
  clear hK K hHeld4
  (try simp only [Act.put, u1, u2, u3])
  refine tk 7 ⟨some 12, .move (.tmp 19), 30, "l07_deltas.go:114", #[⟨6, .data⟩], none⟩ ?_
  (try simp only [Act.put, u1, u2, u3])
  refine tk 8 ⟨some 20, .extract (.tmp 12) 0, 29, "l07_deltas.go:114", #[⟨7, .data⟩], none⟩ ?_
  (try simp only [Act.put, u1, u2, u3])
  refine tk 9 ⟨some 21, .extract (.tmp 12) 1, 4, "l07_deltas.go:114", #[⟨7, .data⟩, { on := 11, ground := Ground.gcOnly Departure.lateStores }], none⟩ ?_
  (try simp only [Act.put, u1, u2, u3])
  refine rk 10 rfl (fun K hK => ?_)
  have talloc : Below z1.heap.size z1 (z1.alloc (.cells #[.slice none 0 0, .slice none 0 0] 29)) := bl
  have hboxn := Lib.hid (boxAt (Below.refl _ (z1.alloc (.cells #[.slice none 0 0, .slice none 0 0] 29))))
  have hxsn : z1.heap.size < (z1.alloc (.cells #[.slice none 0 0, .slice none 0 0] 29)).heap.size := lt_of_row hboxn.out
  have Salloc : (z1.alloc (.cells #[.slice none 0 0, .slice none 0 0] 29)).cell? ⟨q, 0, none⟩ = some (.slice (cAt l 0).va 4 (cAt l 0).vc) ∧ (z1.alloc (.cells #[.slice none 0 0, .slice none 0 0] 29)).cell? ⟨q, 1, none⟩ = some (.slice (cAt l 0).oa (cAt l 0).no (cAt l 0).oc) ∧ (z1.alloc (.cells #[.slice none 0 0, .slice none 0 0] 29)).cell? ⟨q, 2, none⟩ = some (.slice (cAt l 1).va 4 (cAt l 1).vc) ∧ (z1.alloc (.cells #[.slice none 0 0, .slice none 0 0] 29)).cell? ⟨q, 3, none⟩ = some (.slice (cAt l 1).oa (cAt l 1).no (cAt l 1).oc) := ⟨(talloc.cell (block_lt_of_cell Sz1.1)).trans Sz1.1, (talloc.cell (block_lt_of_cell Sz1.2.1)).trans Sz1.2.1, (talloc.cell (block_lt_of_cell Sz1.2.2.1)).trans Sz1.2.2.1, (talloc.cell (block_lt_of_cell Sz1.2.2.2)).trans Sz1.2.2.2⟩
  have HLalloc := Lib.hid (HLz1.out.below talloc)
  go_simp
  refine hK.out _ _ Salloc (fun hHeldA => ?_)
  clear hK K hHeldA
  (try simp only [Act.put, u1, u2, u3])
  generalize z1.alloc (.cells #[.slice none 0 0, .slice none 0 0] 29) = z2 at talloc hboxn hxsn Salloc HLalloc ⊢
  have tz2 := talloc
  have hboxz2 := hboxn
  have hxsz2 := hxsn
  have Sz2 := Salloc
  have HLz2 := HLalloc
  clear talloc hboxn hxsn Salloc HLalloc
  have hov := hov.below tz2 (Nat.le_refl _)
  have hop := hop.below tz2 (Nat.le_refl _)
  have q1 := tz1.size
  have q2 := tz2.size
  have q0 := g0.size
  have hpq : z1.heap.size ≠ q := by omega
  have hpw : w1.heap.size ≤ z1.heap.size := by omega
  obtain ⟨d0, d1⟩ := pair_cells hboxz2.out
  obtain ⟨f0, f1⟩ := pair_frozen hboxz2.out
  have hwz := pair_size z2 z1.heap.size (.slice pv vs.length pc) (.slice po os.length pk)
  have HLf := Lib.hid (HLz2.out.box (.slice pv vs.length pc) (.slice po os.length pk) hboxz2.out hpw hpq)
  have HPf : Hid (((z2.setCell ⟨z1.heap.size, 0, none⟩ (.slice pv vs.length pc)).setCell ⟨z1.heap.size, 1, none⟩ (.slice po os.length pk)).heap[z1.heap.size]? = some (.cells #[.slice pv vs.length pc, .slice po os.length pk] 29 (0, 0))) := pair_set _ _ hboxz2.out
  have HIf : Hid (IntsFar ((z2.setCell ⟨z1.heap.size, 0, none⟩ (.slice pv vs.length pc)).setCell ⟨z1.heap.size, 1, none⟩ (.slice po os.length pk)) w1.heap.size z1.heap.size pv vs.length vs) := (far_ints (lo := w1.heap.size) hov (by omega) (by omega) (by omega)).kept (fun j _ _ h => pair_other _ _ h) (Nat.le_of_eq hwz.symm)
  have HOf : Hid (OpsFar ((z2.setCell ⟨z1.heap.size, 0, none⟩ (.slice pv vs.length pc)).setCell ⟨z1.heap.size, 1, none⟩ (.slice po os.length pk)) w1.heap.size z1.heap.size po os.length os) := (far_ops (lo := w1.heap.size) hop (by omega) (by omega) (by omega)).kept (fun j _ _ h => pair_other _ _ h) (Nat.le_of_eq hwz.symm)
  have Szf : ((z2.setCell ⟨z1.heap.size, 0, none⟩ (.slice pv vs.length pc)).setCell ⟨z1.heap.size, 1, none⟩ (.slice po os.length pk)).cell? ⟨q, 0, none⟩ = some (.slice (cAt l 0).va 4 (cAt l 0).vc) ∧ ((z2.setCell ⟨z1.heap.size, 0, none⟩ (.slice pv vs.length pc)).setCell ⟨z1.heap.size, 1, none⟩ (.slice po os.length pk)).cell? ⟨q, 1, none⟩ = some (.slice (cAt l 0).oa (cAt l 0).no (cAt l 0).oc) ∧ ((z2.setCell ⟨z1.heap.size, 0, none⟩ (.slice pv vs.length pc)).setCell ⟨z1.heap.size, 1, none⟩ (.slice po os.length pk)).cell? ⟨q, 2, none⟩ = some (.slice (cAt l 1).va 4 (cAt l 1).vc) ∧ ((z2.setCell ⟨z1.heap.size, 0, none⟩ (.slice pv vs.length pc)).setCell ⟨z1.heap.size, 1, none⟩ (.slice po os.length pk)).cell? ⟨q, 3, none⟩ = some (.slice (cAt l 1).oa (cAt l 1).no (cAt l 1).oc) := ⟨(HLf.out.cell 0 (by omega)).1, (HLf.out.cell 0 (by omega)).2, (HLf.out.cell 1 (by omega)).1, (HLf.out.cell 1 (by omega)).2⟩
  refine rk 11 rfl (fun K hK => ?_)
  go_simp
  refine hK.out _ _ Szf (fun hHeldB => ?_)
  clear hK K hHeldB d0 d1 f0 f1
  (try simp only [Act.put, u1, u2, u3])
  refine tk 12 ⟨some 7, .assign (.tmp 21), 4, "l07_deltas.go:114", #[⟨9, .data⟩, ⟨11, .chain⟩, ⟨0, .phase⟩, ⟨1, .phase⟩, ⟨2, .phase⟩, ⟨3, .phase⟩, ⟨4, .phase⟩, ⟨5, .phase⟩, ⟨6, .phase⟩, ⟨7, .phase⟩, ⟨8, .phase⟩, ⟨9, .phase⟩, ⟨10, .phase⟩, ⟨11, .phase⟩], none⟩ ?_
  (try simp only [Act.put, u1, u2, u3])
  refine wpAnyH_done (by kernel_rfl) ?_ _
  exact hKall _ pv pc po pk vs os _ _ _ _ _ _ _ _ _ _ _ _ hlv hlo hcp HIt HLf HPf HIf HOf hpw hpq
 ·skip
  have talloc : Below z0.heap.size z0 (z0.alloc (.cells #[.slice none 0 0, .slice none 0 0] 29)) := bl
  have hboxn := Lib.hid (boxAt (Below.refl _ (z0.alloc (.cells #[.slice none 0 0, .slice none 0 0] 29))))
  have hxsn : z0.heap.size < (z0.alloc (.cells #[.slice none 0 0, .slice none 0 0] 29)).heap.size := lt_of_row hboxn.out
  have Salloc : (z0.alloc (.cells #[.slice none 0 0, .slice none 0 0] 29)).cell? ⟨q, 0, none⟩ = some (.slice (cAt l 0).va 4 (cAt l 0).vc) ∧ (z0.alloc (.cells #[.slice none 0 0, .slice none 0 0] 29)).cell? ⟨q, 1, none⟩ = some (.slice (cAt l 0).oa (cAt l 0).no (cAt l 0).oc) ∧ (z0.alloc (.cells #[.slice none 0 0, .slice none 0 0] 29)).cell? ⟨q, 2, none⟩ = some (.slice (cAt l 1).va 4 (cAt l 1).vc) ∧ (z0.alloc (.cells #[.slice none 0 0, .slice none 0 0] 29)).cell? ⟨q, 3, none⟩ = some (.slice (cAt l 1).oa (cAt l 1).no (cAt l 1).oc) := ⟨(talloc.cell (block_lt_of_cell Sz0.1)).trans Sz0.1, (talloc.cell (block_lt_of_cell Sz0.2.1)).trans Sz0.2.1, (talloc.cell (block_lt_of_cell Sz0.2.2.1)).trans Sz0.2.2.1, (talloc.cell (block_lt_of_cell Sz0.2.2.2)).trans Sz0.2.2.2⟩
  have HLalloc := Lib.hid (HLz0.out.below talloc)
  go_simp
  refine hK.out _ _ Salloc (fun hHeldA => ?_)
  clear hK K hHeldA
  (try simp only [Act.put, u1, u2, u3])
  generalize z0.alloc (.cells #[.slice none 0 0, .slice none 0 0] 29) = z1 at talloc hboxn hxsn Salloc HLalloc ⊢
  have tz1 := talloc
  have hboxz1 := hboxn
  have hxsz1 := hxsn
  have Sz1 := Salloc
  have HLz1 := HLalloc
  clear talloc hboxn hxsn Salloc HLalloc
  refine rk 6 rfl (fun K hK => ?_)
  go_simp
  go_at_call 22
  have hc := specDeltaK z1 z0.heap.size (cAt l 0).va (cAt l 0).oa (cAt l 1).va (cAt l 1).oa 4 (cAt l 0).vc (cAt l 0).no (cAt l 0).oc 4 (cAt l 1).vc (cAt l 1).no (cAt l 1).oc xs l0 ys m0 (HA.out.below tz1 (Nat.le_refl _)) (HAo.out.below tz1 (Nat.le_refl _)) (HB.out.below tz1 (Nat.le_refl _)) (HBo.out.below tz1 (Nat.le_refl _)) (by have := tz1.size; omega) (by omega) (by omega) HIa.out (by omega) (by omega) HIb.out
  rw [HR.out, HVs.out, HOs.out] at hc
  refine hc.mono ?_
  clear hc
  rintro e z2 ⟨pv, pc, po, pk, rfl, hov, hop, tz2, hcp⟩
  have Sz2 : z2.cell? ⟨q, 0, none⟩ = some (.slice (cAt l 0).va 4 (cAt l 0).vc) ∧ z2.cell? ⟨q, 1, none⟩ = some (.slice (cAt l 0).oa (cAt l 0).no (cAt l 0).oc) ∧ z2.cell? ⟨q, 2, none⟩ = some (.slice (cAt l 1).va 4 (cAt l 1).vc) ∧ z2.cell? ⟨q, 3, none⟩ = some (.slice (cAt l 1).oa (cAt l 1).no (cAt l 1).oc) := ⟨(tz2.cell (block_lt_of_cell Sz1.1)).trans Sz1.1, (tz2.cell (block_lt_of_cell Sz1.2.1)).trans Sz1.2.1, (tz2.cell (block_lt_of_cell Sz1.2.2.1)).trans Sz1.2.2.1, (tz2.cell (block_lt_of_cell Sz1.2.2.2)).trans Sz1.2.2.2⟩
  have HLz2 := Lib.hid (HLz1.out.below tz2)
  refine hK.out _ _ Sz2 (fun hHeld4 => ?_)
  clear hK K hHeld4
  (try simp only [Act.put, u1, u2, u3])
  refine tk 7 ⟨some 12, .move (.tmp 19), 30, "l07_deltas.go:114", #[⟨6, .data⟩], none⟩ ?_
  (try simp only [Act.put, u1, u2, u3])
  refine tk 8 ⟨some 20, .extract (.tmp 12) 0, 29, "l07_deltas.go:114", #[⟨7, .data⟩], none⟩ ?_
  (try simp only [Act.put, u1, u2, u3])
  refine tk 9 ⟨some 21, .extract (.tmp 12) 1, 4, "l07_deltas.go:114", #[⟨7, .data⟩, { on := 11, ground := Ground.gcOnly Departure.lateStores }], none⟩ ?_
  (try simp only [Act.put, u1, u2, u3])
  have hboxz2 := Lib.hid ((tz2.block _ hxsz1).trans hboxz1.out)
  have q1 := tz1.size
  have q2 := tz2.size
  have q0 := g0.size
  have hpq : z0.heap.size ≠ q := by omega
  have hpw : w1.heap.size ≤ z0.heap.size := by omega
  obtain ⟨d0, d1⟩ := pair_cells hboxz2.out
  obtain ⟨f0, f1⟩ := pair_frozen hboxz2.out
  have hwz := pair_size z2 z0.heap.size (.slice pv vs.length pc) (.slice po os.length pk)
  have HLf := Lib.hid (HLz2.out.box (.slice pv vs.length pc) (.slice po os.length pk) hboxz2.out hpw hpq)
  have HPf : Hid (((z2.setCell ⟨z0.heap.size, 0, none⟩ (.slice pv vs.length pc)).setCell ⟨z0.heap.size, 1, none⟩ (.slice po os.length pk)).heap[z0.heap.size]? = some (.cells #[.slice pv vs.length pc, .slice po os.length pk] 29 (0, 0))) := pair_set _ _ hboxz2.out
  have HIf : Hid (IntsFar ((z2.setCell ⟨z0.heap.size, 0, none⟩ (.slice pv vs.length pc)).setCell ⟨z0.heap.size, 1, none⟩ (.slice po os.length pk)) w1.heap.size z0.heap.size pv vs.length vs) := (far_ints (lo := w1.heap.size) hov (by omega) (by omega) (by omega)).kept (fun j _ _ h => pair_other _ _ h) (Nat.le_of_eq hwz.symm)
  have HOf : Hid (OpsFar ((z2.setCell ⟨z0.heap.size, 0, none⟩ (.slice pv vs.length pc)).setCell ⟨z0.heap.size, 1, none⟩ (.slice po os.length pk)) w1.heap.size z0.heap.size po os.length os) := (far_ops (lo := w1.heap.size) hop (by omega) (by omega) (by omega)).kept (fun j _ _ h => pair_other _ _ h) (Nat.le_of_eq hwz.symm)
  have Szf : ((z2.setCell ⟨z0.heap.size, 0, none⟩ (.slice pv vs.length pc)).setCell ⟨z0.heap.size, 1, none⟩ (.slice po os.length pk)).cell? ⟨q, 0, none⟩ = some (.slice (cAt l 0).va 4 (cAt l 0).vc) ∧ ((z2.setCell ⟨z0.heap.size, 0, none⟩ (.slice pv vs.length pc)).setCell ⟨z0.heap.size, 1, none⟩ (.slice po os.length pk)).cell? ⟨q, 1, none⟩ = some (.slice (cAt l 0).oa (cAt l 0).no (cAt l 0).oc) ∧ ((z2.setCell ⟨z0.heap.size, 0, none⟩ (.slice pv vs.length pc)).setCell ⟨z0.heap.size, 1, none⟩ (.slice po os.length pk)).cell? ⟨q, 2, none⟩ = some (.slice (cAt l 1).va 4 (cAt l 1).vc) ∧ ((z2.setCell ⟨z0.heap.size, 0, none⟩ (.slice pv vs.length pc)).setCell ⟨z0.heap.size, 1, none⟩ (.slice po os.length pk)).cell? ⟨q, 3, none⟩ = some (.slice (cAt l 1).oa (cAt l 1).no (cAt l 1).oc) := ⟨(HLf.out.cell 0 (by omega)).1, (HLf.out.cell 0 (by omega)).2, (HLf.out.cell 1 (by omega)).1, (HLf.out.cell 1 (by omega)).2⟩
  refine rk 11 rfl (fun K hK => ?_)
  go_simp
  refine hK.out _ _ Szf (fun hHeldB => ?_)
  clear hK K hHeldB d0 d1 f0 f1
  (try simp only [Act.put, u1, u2, u3])
  refine tk 12 ⟨some 7, .assign (.tmp 21), 4, "l07_deltas.go:114", #[⟨9, .data⟩, ⟨11, .chain⟩, ⟨0, .phase⟩, ⟨1, .phase⟩, ⟨2, .phase⟩, ⟨3, .phase⟩, ⟨4, .phase⟩, ⟨5, .phase⟩, ⟨6, .phase⟩, ⟨7, .phase⟩, ⟨8, .phase⟩, ⟨9, .phase⟩, ⟨10, .phase⟩, ⟨11, .phase⟩], none⟩ ?_
  (try simp only [Act.put, u1, u2, u3])
  refine wpAnyH_done (by kernel_rfl) ?_ _
  exact hKall _ pv pc po pk vs os _ _ _ _ _ _ _ _ _ _ _ _ hlv hlo hcp HIt HLf HPf HIf HOf hpw hpq
end Go.Proofs.Ytdbdmfaphdjdpaa

namespace Go.Proofs.Ytdbdmfaphdjdpaa
set_option maxRecDepth 100000
open Go.RowKit
set_option linter.unusedVariables false
set_option linter.unusedSimpArgs false

set_option maxHeartbeats 80000000 in
theorem fnTakenWalk (a : Option Addr) (len cap : Nat) (zs : List Int) (w : World) (h : IsRow .u8 w a len cap zs) :
  Calls Try.prog 4 #[.slice a len cap] w fun e w' => e = .returned (.bool true) ∧ Below w.heap.size w w' := by
 by_cases hbig : len ≤ 1048576
 rotate_left
 ·go_enter Try.func4, Try.ntmps4
  go_wp2_with fail
  refine (bigYes a len cap hbig w).mono ?_
  rintro e w' ⟨rfl, rfl⟩
  go_wp2
  go_ret
  exact ⟨rfl, Below.refl _ _⟩
 have hsrc := Lib.hid (src_of_row h hbig)
 clear h
 go_enter Try.func4, Try.ntmps4
 go_wp2_with fail
 refine (bigNo a len cap hbig w).mono ?_
 rintro e w' ⟨rfl, rfl⟩
 go_wp2_with fail
 refine (drawTaken w w.heap.size a len cap (Nat.le_refl _) hsrc.out).mono ?_
 rintro e w0 ⟨⟨ava, avc, aoa, ano, aoc⟩, bva, bvn, bvc, boa, bno, boc, ys, m, hvn, hbn, hbc, hbi, rfl, hx, hyi, hyo, hb0⟩
 obtain ⟨xs, l, e1, a1, a2, a3, a4, a5, a6⟩ := hx
 have e1 : ano = l.length := e1
 subst e1
 have HVA0 := Lib.hid a1.ints
 have HOA0 := Lib.hid a2.ops
 have HVB0 := Lib.hid hyi
 have HOB0 := Lib.hid hyo
 have HB0 := Lib.hid hb0
 have HCa := Lib.hid a4
 have HIa : Hid (∀ i, i < l.length → (atOp l i).item.size ≤ 1048576) := fun i hi => Nat.le_trans (a5 i hi) (by omega)
 have HIb : Hid (∀ i, i < bno → (atOp m i).item.size ≤ 1048576) := fun i hi => Nat.le_trans (hbi i hi) (by omega)
 have hs0 := hb0.size
 clear a1 a2 a3 a4 a5 hyi hyo hbi hb0
 dsimp only
 go_upto_region 4 with fail
 have hT := Two.mk0 w0 #[.slice ava 4 avc, .slice aoa l.length aoc] #[.slice bva bvn bvc, .slice boa bno boc] 29
 have HXa1 := Lib.hid hT.fst
 have HXb1 := Lib.hid hT.snd
 have hb := hT.bel
 clear hT
 generalize (w0.alloc (.cells #[.slice ava 4 avc, .slice aoa l.length aoc] 29)).alloc (.cells #[.slice bva bvn bvc, .slice boa bno boc] 29) = w1 at hb HXa1 HXb1 ⊢
 have hs1 := hb.size
 have HVA1 := Lib.hid (HVA0.out.below hb (by omega))
 have HOA1 := Lib.hid (HOA0.out.below hb (by omega))
 have HVB1 := Lib.hid (HVB0.out.below hb (by omega))
 have HOB1 := Lib.hid (HOB0.out.below hb (by omega))
 have HB1 := Lib.hid (HB0.out.trans (hb.mono (by omega)))
 clear hb HVA0 HOA0 HVB0 HOB0 HB0
 obtain ⟨R, hR⟩ : ∃ R, takB xs l ys m = R := ⟨_, rfl⟩
 have HR := Lib.hid hR
 obtain ⟨vs, hvs⟩ : ∃ vs, takVs xs ys R = vs := ⟨_, rfl⟩
 obtain ⟨os, hos⟩ : ∃ os, takOs l m R = os := ⟨_, rfl⟩
 have HVs := Lib.hid hvs
 have HOs := Lib.hid hos
 have hlv : vs.length ≤ 4 := by rw [← hvs]; exact takVs_len xs ys l m R hR
 have hlo : os.length ≤ 200 := by rw [← hos]; exact takOs_len xs ys l m R hR
 clear hR hvs hos
 obtain ⟨c00, c01⟩ := pair_cells HXa1.out
 obtain ⟨c10, c11⟩ := pair_cells HXb1.out
 go_wp2_with fail
 have hc := implTakenK w1 w1.heap.size ava aoa bva boa 4 avc l.length aoc bvn bvc bno boc xs l ys m (HVA1.out.more (by omega)) (HOA1.out.more (by omega)) (HVB1.out.more (by omega)) (HOB1.out.more (by omega)) (Nat.le_refl _) (by omega) HCa.out.1 ⟨by omega, HCa.out.2.1⟩ HIa.out (by omega) hbc (by omega) HIb.out
 rw [HR.out, HVs.out, HOs.out] at hc
 refine hc.mono ?_
 clear hc
 rintro e w2 ⟨mva, mvc, moa, moc, mid, rfl, hov, hop, hm1, hm2, hb, hcm⟩
 clear c00 c01 c10 c11
 have HCm := Lib.hid hcm
 have hov := hov.more (Nat.le_refl _) hm2
 clear hcm hm1 hm2
 have hs2 := hb.size
 have HVA2 := Lib.hid (HVA1.out.below hb (by omega))
 have HOA2 := Lib.hid (HOA1.out.below hb (by omega))
 have HVB2 := Lib.hid (HVB1.out.below hb (by omega))
 have HOB2 := Lib.hid (HOB1.out.below hb (by omega))
 have HB2 := Lib.hid (HB1.out.trans (hb.mono (by omega)))
 have HXa2 := Lib.hid ((hb.block _ (lt_of_row HXa1.out)).trans HXa1.out)
 have HXb2 := Lib.hid ((hb.block _ (lt_of_row HXb1.out)).trans HXb1.out)
 clear hb HVA1 HOA1 HVB1 HOB1 HB1 HXa1 HXb1
 have HVM2 := Lib.hid hov.ints
 have HOM2 := Lib.hid hop.ops
 clear hov hop
 go_upto_region 5 with fail
 have hb : Below w2.heap.size w2 (w2.alloc (.cells #[.slice mva vs.length mvc, .slice moa os.length moc] 29)) := bl
 have HXm3 := Lib.hid (boxAt (Below.refl _ (w2.alloc (.cells #[.slice mva vs.length mvc, .slice moa os.length moc] 29))))
 generalize w2.alloc (.cells #[.slice mva vs.length mvc, .slice moa os.length moc] 29) = w3 at hb HXm3 ⊢
 have hs3 := hb.size
 have HVA3 := Lib.hid (HVA2.out.below hb (by omega))
 have HOA3 := Lib.hid (HOA2.out.below hb (by omega))
 have HVB3 := Lib.hid (HVB2.out.below hb (by omega))
 have HOB3 := Lib.hid (HOB2.out.below hb (by omega))
 have HB3 := Lib.hid (HB2.out.trans (hb.mono (by omega)))
 have HXa3 := Lib.hid ((hb.block _ (lt_of_row HXa2.out)).trans HXa2.out)
 have HXb3 := Lib.hid ((hb.block _ (lt_of_row HXb2.out)).trans HXb2.out)
 have HVM3 := Lib.hid (HVM2.out.below hb (by omega))
 have HOM3 := Lib.hid (HOM2.out.below hb (by omega))
 clear hb HVA2 HOA2 HVB2 HOB2 HB2 HXa2 HXb2 HVM2 HOM2
 obtain ⟨c00, c01⟩ := pair_cells HXa3.out
 obtain ⟨c10, c11⟩ := pair_cells HXb3.out
 go_wp2_with fail
 have hc := specTakenC w3 w3.heap.size ava aoa bva boa 4 avc l.length aoc bvn bvc bno boc xs l ys m (HVA3.out.more (by omega)) (HOA3.out.more (by omega)) (HVB3.out.more (by omega)) (HOB3.out.more (by omega)) (Nat.le_refl _) (by omega) (by omega) HIa.out (by omega) (by omega) HIb.out
 rw [HR.out, HVs.out, HOs.out] at hc
 refine hc.mono ?_
 clear hc
 rintro e w4 ⟨wva, wvc, woa, woc, rfl, hov, hop, hb, _, _⟩
 clear c00 c01 c10 c11
 have hs4 := hb.size
 have HVA4 := Lib.hid (HVA3.out.below hb (by omega))
 have HOA4 := Lib.hid (HOA3.out.below hb (by omega))
 have HVB4 := Lib.hid (HVB3.out.below hb (by omega))
 have HOB4 := Lib.hid (HOB3.out.below hb (by omega))
 have HB4 := Lib.hid (HB3.out.trans (hb.mono (by omega)))
 have HXa4 := Lib.hid ((hb.block _ (lt_of_row HXa3.out)).trans HXa3.out)
 have HXb4 := Lib.hid ((hb.block _ (lt_of_row HXb3.out)).trans HXb3.out)
 have HVM4 := Lib.hid (HVM3.out.below hb (by omega))
 have HOM4 := Lib.hid (HOM3.out.below hb (by omega))
 have HXm4 := Lib.hid ((hb.block _ (lt_of_row HXm3.out)).trans HXm3.out)
 clear hb HVA3 HOA3 HVB3 HOB3 HB3 HXa3 HXb3 HVM3 HOM3 HXm3
 have HVW4 := Lib.hid hov.ints
 have HOW4 := Lib.hid hop.ops
 clear hov hop
 go_upto_region 6 with fail
 have hb : Below w4.heap.size w4 (w4.alloc (.cells #[.slice wva vs.length wvc, .slice woa os.length woc] 29)) := bl
 have HXw5 := Lib.hid (boxAt (Below.refl _ (w4.alloc (.cells #[.slice wva vs.length wvc, .slice woa os.length woc] 29))))
 generalize w4.alloc (.cells #[.slice wva vs.length wvc, .slice woa os.length woc] 29) = w5 at hb HXw5 ⊢
 have hs5 := hb.size
 have HVA5 := Lib.hid (HVA4.out.below hb (by omega))
 have HOA5 := Lib.hid (HOA4.out.below hb (by omega))
 have HVB5 := Lib.hid (HVB4.out.below hb (by omega))
 have HOB5 := Lib.hid (HOB4.out.below hb (by omega))
 have HB5 := Lib.hid (HB4.out.trans (hb.mono (by omega)))
 have HXa5 := Lib.hid ((hb.block _ (lt_of_row HXa4.out)).trans HXa4.out)
 have HXb5 := Lib.hid ((hb.block _ (lt_of_row HXb4.out)).trans HXb4.out)
 have HVM5 := Lib.hid (HVM4.out.below hb (by omega))
 have HOM5 := Lib.hid (HOM4.out.below hb (by omega))
 have HXm5 := Lib.hid ((hb.block _ (lt_of_row HXm4.out)).trans HXm4.out)
 have HVW5 := Lib.hid (HVW4.out.below hb (by omega))
 have HOW5 := Lib.hid (HOW4.out.below hb (by omega))
 clear hb HVA4 HOA4 HVB4 HOB4 HB4 HXa4 HXb4 HVM4 HOM4 HXm4 HVW4 HOW4
 obtain ⟨c00, c01⟩ := pair_cells HXm5.out
 obtain ⟨c10, c11⟩ := pair_cells HXw5.out
 go_wp2_with fail
 refine (sameCart w5 w5.heap.size mva moa wva woa vs.length mvc os.length moc vs.length wvc os.length woc vs os vs os (HVM5.out.more (by omega)) (HOM5.out.more (by omega)) (HVW5.out.more (by omega)) (HOW5.out.more (by omega)) (Nat.le_refl _) (by omega) (by omega) (by omega) (by omega)).mono ?_
 rintro e w6 ⟨rfl, hb⟩
 rw [decide_eq_true rfl, decide_eq_true rfl]
 clear c00 c01 c10 c11
 have hs6 := hb.size
 have HVA6 := Lib.hid (HVA5.out.below hb (by omega))
 have HOA6 := Lib.hid (HOA5.out.below hb (by omega))
 have HVB6 := Lib.hid (HVB5.out.below hb (by omega))
 have HOB6 := Lib.hid (HOB5.out.below hb (by omega))
 have HB6 := Lib.hid (HB5.out.trans (hb.mono (by omega)))
 have HXa6 := Lib.hid ((hb.block _ (lt_of_row HXa5.out)).trans HXa5.out)
 have HXb6 := Lib.hid ((hb.block _ (lt_of_row HXb5.out)).trans HXb5.out)
 have HVM6 := Lib.hid (HVM5.out.below hb (by omega))
 have HOM6 := Lib.hid (HOM5.out.below hb (by omega))
 have HXm6 := Lib.hid ((hb.block _ (lt_of_row HXm5.out)).trans HXm5.out)
 have HVW6 := Lib.hid (HVW5.out.below hb (by omega))
 have HOW6 := Lib.hid (HOW5.out.below hb (by omega))
 have HXw6 := Lib.hid ((hb.block _ (lt_of_row HXw5.out)).trans HXw5.out)
 clear hb HVA5 HOA5 HVB5 HOB5 HB5 HXa5 HXb5 HVM5 HOM5 HXm5 HVW5 HOW5 HXw5
 cases R
 ·skip
  obtain ⟨c00, c01⟩ := pair_cells HXm6.out
  obtain ⟨c10, c11⟩ := pair_cells HXw6.out
  go_wp2_with fail
  refine (sameCart w6 w6.heap.size mva moa wva woa vs.length mvc os.length moc vs.length wvc os.length woc vs os vs os (HVM6.out.more (by omega)) (HOM6.out.more (by omega)) (HVW6.out.more (by omega)) (HOW6.out.more (by omega)) (Nat.le_refl _) (by omega) (by omega) (by omega) (by omega)).mono ?_
  rintro e w7 ⟨rfl, hb⟩
  rw [decide_eq_true rfl, decide_eq_true rfl]
  clear c00 c01 c10 c11
  have hs7 := hb.size
  have HVA7 := Lib.hid (HVA6.out.below hb (by omega))
  have HOA7 := Lib.hid (HOA6.out.below hb (by omega))
  have HVB7 := Lib.hid (HVB6.out.below hb (by omega))
  have HOB7 := Lib.hid (HOB6.out.below hb (by omega))
  have HB7 := Lib.hid (HB6.out.trans (hb.mono (by omega)))
  have HXa7 := Lib.hid ((hb.block _ (lt_of_row HXa6.out)).trans HXa6.out)
  have HXb7 := Lib.hid ((hb.block _ (lt_of_row HXb6.out)).trans HXb6.out)
  have HVM7 := Lib.hid (HVM6.out.below hb (by omega))
  have HOM7 := Lib.hid (HOM6.out.below hb (by omega))
  have HXm7 := Lib.hid ((hb.block _ (lt_of_row HXm6.out)).trans HXm6.out)
  have HVW7 := Lib.hid (HVW6.out.below hb (by omega))
  have HOW7 := Lib.hid (HOW6.out.below hb (by omega))
  have HXw7 := Lib.hid ((hb.block _ (lt_of_row HXw6.out)).trans HXw6.out)
  clear hb HVA6 HOA6 HVB6 HOB6 HB6 HXa6 HXb6 HVM6 HOM6 HXm6 HVW6 HOW6 HXw6
  go_wp2
  go_ret
  exact ⟨rfl, HB7.out⟩
 obtain ⟨t1, t2, t3, t4, t5, t6, t7, t8, t9, t10, t11, t12, t13⟩ := taken_law HR.out HVs.out HOs.out
 have HCC := Lib.hid t3
 have HIN := Lib.hid t4
 have HT1 := Lib.hid t5
 have HT2 := Lib.hid t6
 have HT3 := Lib.hid t7
 have HT4 := Lib.hid t8
 have HT5 := Lib.hid t9
 have HT6 := Lib.hid t10
 have HT7 := Lib.hid t11
 have HT8 := Lib.hid t12
 have HT9 := Lib.hid t13
 have HIm : Hid (∀ i, i < os.length → (atOp os i).item.size ≤ 1048576) := fun i hi => Nat.le_trans (op_bounds (cart_op t3 hi)).2.2.2.2.1 (by omega)
 clear t1 t2 t3 t4 t5 t6 t7 t8 t9 t10 t11 t12 t13
 obtain ⟨c00, c01⟩ := pair_cells HXm6.out
 obtain ⟨c10, c11⟩ := pair_cells HXb6.out
 go_wp2_with fail
 have hc := implTakenK w6 w6.heap.size mva moa bva boa vs.length mvc os.length moc bvn bvc bno boc vs os ys m (HVM6.out.more (by omega)) (HOM6.out.more (by omega)) (HVB6.out.more (by omega)) (HOB6.out.more (by omega)) (Nat.le_refl _) (by omega) HCm.out.1 ⟨by omega, HCm.out.2.1⟩ HIm.out (by omega) hbc (by omega) HIb.out
 rw [HT1.out, HT2.out, HT3.out] at hc
 refine hc.mono ?_
 clear hc
 rintro e w7 ⟨gva, gvc, goa, goc, midg, rfl, hov, hop, hm1, hm2, hb, _⟩
 clear c00 c01 c10 c11
 have hov := hov.more (Nat.le_refl _) hm2
 clear hm1 hm2
 have hs7 := hb.size
 have HVA7 := Lib.hid (HVA6.out.below hb (by omega))
 have HOA7 := Lib.hid (HOA6.out.below hb (by omega))
 have HVB7 := Lib.hid (HVB6.out.below hb (by omega))
 have HOB7 := Lib.hid (HOB6.out.below hb (by omega))
 have HB7 := Lib.hid (HB6.out.trans (hb.mono (by omega)))
 have HXa7 := Lib.hid ((hb.block _ (lt_of_row HXa6.out)).trans HXa6.out)
 have HXb7 := Lib.hid ((hb.block _ (lt_of_row HXb6.out)).trans HXb6.out)
 have HVM7 := Lib.hid (HVM6.out.below hb (by omega))
 have HOM7 := Lib.hid (HOM6.out.below hb (by omega))
 have HXm7 := Lib.hid ((hb.block _ (lt_of_row HXm6.out)).trans HXm6.out)
 have HVW7 := Lib.hid (HVW6.out.below hb (by omega))
 have HOW7 := Lib.hid (HOW6.out.below hb (by omega))
 have HXw7 := Lib.hid ((hb.block _ (lt_of_row HXw6.out)).trans HXw6.out)
 clear hb HVA6 HOA6 HVB6 HOB6 HB6 HXa6 HXb6 HVM6 HOM6 HXm6 HVW6 HOW6 HXw6
 have HVG7 := Lib.hid hov.ints
 have HOG7 := Lib.hid hop.ops
 clear hov hop
 go_upto_region 9 with fail
 have hb : Below w7.heap.size w7 (w7.alloc (.cells #[.slice gva vs.length gvc, .slice goa os.length goc] 29)) := bl
 have HXg8 := Lib.hid (boxAt (Below.refl _ (w7.alloc (.cells #[.slice gva vs.length gvc, .slice goa os.length goc] 29))))
 generalize w7.alloc (.cells #[.slice gva vs.length gvc, .slice goa os.length goc] 29) = w8 at hb HXg8 ⊢
 have hs8 := hb.size
 have HVA8 := Lib.hid (HVA7.out.below hb (by omega))
 have HOA8 := Lib.hid (HOA7.out.below hb (by omega))
 have HVB8 := Lib.hid (HVB7.out.below hb (by omega))
 have HOB8 := Lib.hid (HOB7.out.below hb (by omega))
 have HB8 := Lib.hid (HB7.out.trans (hb.mono (by omega)))
 have HXa8 := Lib.hid ((hb.block _ (lt_of_row HXa7.out)).trans HXa7.out)
 have HXb8 := Lib.hid ((hb.block _ (lt_of_row HXb7.out)).trans HXb7.out)
 have HVM8 := Lib.hid (HVM7.out.below hb (by omega))
 have HOM8 := Lib.hid (HOM7.out.below hb (by omega))
 have HXm8 := Lib.hid ((hb.block _ (lt_of_row HXm7.out)).trans HXm7.out)
 have HVW8 := Lib.hid (HVW7.out.below hb (by omega))
 have HOW8 := Lib.hid (HOW7.out.below hb (by omega))
 have HXw8 := Lib.hid ((hb.block _ (lt_of_row HXw7.out)).trans HXw7.out)
 have HVG8 := Lib.hid (HVG7.out.below hb (by omega))
 have HOG8 := Lib.hid (HOG7.out.below hb (by omega))
 clear hb HVA7 HOA7 HVB7 HOB7 HB7 HXa7 HXb7 HVM7 HOM7 HXm7 HVW7 HOW7 HXw7 HVG7 HOG7
 obtain ⟨c00, c01⟩ := pair_cells HXa8.out
 obtain ⟨c10, c11⟩ := pair_cells HXm8.out
 go_wp2_with fail
 have hc := implTakenK w8 w8.heap.size ava aoa mva moa 4 avc l.length aoc vs.length mvc os.length moc xs l vs os (HVA8.out.more (by omega)) (HOA8.out.more (by omega)) (HVM8.out.more (by omega)) (HOM8.out.more (by omega)) (Nat.le_refl _) (by omega) HCa.out.1 ⟨by omega, HCa.out.2.1⟩ HIa.out (by omega) HCm.out.1 (by omega) HIm.out
 rw [HT4.out, HT5.out, HT6.out] at hc
 refine hc.mono ?_
 clear hc
 rintro e w9 ⟨hva, hvc, hoa, hoc, midh, rfl, hov, hop, hm1, hm2, hb, _⟩
 clear c00 c01 c10 c11
 have hov := hov.more (Nat.le_refl _) hm2
 clear hm1 hm2
 have hs9 := hb.size
 have HVA9 := Lib.hid (HVA8.out.below hb (by omega))
 have HOA9 := Lib.hid (HOA8.out.below hb (by omega))
 have HVB9 := Lib.hid (HVB8.out.below hb (by omega))
 have HOB9 := Lib.hid (HOB8.out.below hb (by omega))
 have HB9 := Lib.hid (HB8.out.trans (hb.mono (by omega)))
 have HXa9 := Lib.hid ((hb.block _ (lt_of_row HXa8.out)).trans HXa8.out)
 have HXb9 := Lib.hid ((hb.block _ (lt_of_row HXb8.out)).trans HXb8.out)
 have HVM9 := Lib.hid (HVM8.out.below hb (by omega))
 have HOM9 := Lib.hid (HOM8.out.below hb (by omega))
 have HXm9 := Lib.hid ((hb.block _ (lt_of_row HXm8.out)).trans HXm8.out)
 have HVW9 := Lib.hid (HVW8.out.below hb (by omega))
 have HOW9 := Lib.hid (HOW8.out.below hb (by omega))
 have HXw9 := Lib.hid ((hb.block _ (lt_of_row HXw8.out)).trans HXw8.out)
 have HVG9 := Lib.hid (HVG8.out.below hb (by omega))
 have HOG9 := Lib.hid (HOG8.out.below hb (by omega))
 have HXg9 := Lib.hid ((hb.block _ (lt_of_row HXg8.out)).trans HXg8.out)
 clear hb HVA8 HOA8 HVB8 HOB8 HB8 HXa8 HXb8 HVM8 HOM8 HXm8 HVW8 HOW8 HXw8 HVG8 HOG8 HXg8
 have HVH9 := Lib.hid hov.ints
 have HOH9 := Lib.hid hop.ops
 clear hov hop
 go_upto_region 10 with fail
 have hb : Below w9.heap.size w9 (w9.alloc (.cells #[.slice hva vs.length hvc, .slice hoa os.length hoc] 29)) := bl
 have HXh10 := Lib.hid (boxAt (Below.refl _ (w9.alloc (.cells #[.slice hva vs.length hvc, .slice hoa os.length hoc] 29))))
 generalize w9.alloc (.cells #[.slice hva vs.length hvc, .slice hoa os.length hoc] 29) = w10 at hb HXh10 ⊢
 have hs10 := hb.size
 have HVA10 := Lib.hid (HVA9.out.below hb (by omega))
 have HOA10 := Lib.hid (HOA9.out.below hb (by omega))
 have HVB10 := Lib.hid (HVB9.out.below hb (by omega))
 have HOB10 := Lib.hid (HOB9.out.below hb (by omega))
 have HB10 := Lib.hid (HB9.out.trans (hb.mono (by omega)))
 have HXa10 := Lib.hid ((hb.block _ (lt_of_row HXa9.out)).trans HXa9.out)
 have HXb10 := Lib.hid ((hb.block _ (lt_of_row HXb9.out)).trans HXb9.out)
 have HVM10 := Lib.hid (HVM9.out.below hb (by omega))
 have HOM10 := Lib.hid (HOM9.out.below hb (by omega))
 have HXm10 := Lib.hid ((hb.block _ (lt_of_row HXm9.out)).trans HXm9.out)
 have HVW10 := Lib.hid (HVW9.out.below hb (by omega))
 have HOW10 := Lib.hid (HOW9.out.below hb (by omega))
 have HXw10 := Lib.hid ((hb.block _ (lt_of_row HXw9.out)).trans HXw9.out)
 have HVG10 := Lib.hid (HVG9.out.below hb (by omega))
 have HOG10 := Lib.hid (HOG9.out.below hb (by omega))
 have HXg10 := Lib.hid ((hb.block _ (lt_of_row HXg9.out)).trans HXg9.out)
 have HVH10 := Lib.hid (HVH9.out.below hb (by omega))
 have HOH10 := Lib.hid (HOH9.out.below hb (by omega))
 clear hb HVA9 HOA9 HVB9 HOB9 HB9 HXa9 HXb9 HVM9 HOM9 HXm9 HVW9 HOW9 HXw9 HVG9 HOG9 HXg9 HVH9 HOH9
 obtain ⟨c00, c01⟩ := pair_cells HXa10.out
 obtain ⟨c10, c11⟩ := pair_cells HXm10.out
 go_wp2_with fail
 have hc := implMergedK w10 w10.heap.size ava aoa mva moa 4 avc l.length aoc vs.length mvc os.length moc xs l vs os (HVA10.out.more (by omega)) (HOA10.out.more (by omega)) (HVM10.out.more (by omega)) (HOM10.out.more (by omega)) (Nat.le_refl _) (by omega) HCa.out.1 ⟨by omega, HCa.out.2.1⟩ HIa.out (by omega) HCm.out.1 ⟨by omega, HCm.out.2.1⟩ HIm.out
 rw [HT7.out, HT8.out, HT9.out] at hc
 refine hc.mono ?_
 clear hc
 rintro e w11 ⟨jva, jvc, joa, joc, midj, rfl, hov, hop, hm1, hm2, hb, _⟩
 clear c00 c01 c10 c11
 have hov := hov.more (Nat.le_refl _) hm2
 clear hm1 hm2
 have hs11 := hb.size
 have HVA11 := Lib.hid (HVA10.out.below hb (by omega))
 have HOA11 := Lib.hid (HOA10.out.below hb (by omega))
 have HVB11 := Lib.hid (HVB10.out.below hb (by omega))
 have HOB11 := Lib.hid (HOB10.out.below hb (by omega))
 have HB11 := Lib.hid (HB10.out.trans (hb.mono (by omega)))
 have HXa11 := Lib.hid ((hb.block _ (lt_of_row HXa10.out)).trans HXa10.out)
 have HXb11 := Lib.hid ((hb.block _ (lt_of_row HXb10.out)).trans HXb10.out)
 have HVM11 := Lib.hid (HVM10.out.below hb (by omega))
 have HOM11 := Lib.hid (HOM10.out.below hb (by omega))
 have HXm11 := Lib.hid ((hb.block _ (lt_of_row HXm10.out)).trans HXm10.out)
 have HVW11 := Lib.hid (HVW10.out.below hb (by omega))
 have HOW11 := Lib.hid (HOW10.out.below hb (by omega))
 have HXw11 := Lib.hid ((hb.block _ (lt_of_row HXw10.out)).trans HXw10.out)
 have HVG11 := Lib.hid (HVG10.out.below hb (by omega))
 have HOG11 := Lib.hid (HOG10.out.below hb (by omega))
 have HXg11 := Lib.hid ((hb.block _ (lt_of_row HXg10.out)).trans HXg10.out)
 have HVH11 := Lib.hid (HVH10.out.below hb (by omega))
 have HOH11 := Lib.hid (HOH10.out.below hb (by omega))
 have HXh11 := Lib.hid ((hb.block _ (lt_of_row HXh10.out)).trans HXh10.out)
 clear hb HVA10 HOA10 HVB10 HOB10 HB10 HXa10 HXb10 HVM10 HOM10 HXm10 HVW10 HOW10 HXw10 HVG10 HOG10 HXg10 HVH10 HOH10 HXh10
 have HVJ11 := Lib.hid hov.ints
 have HOJ11 := Lib.hid hop.ops
 clear hov hop
 go_upto_region 11 with fail
 have hb : Below w11.heap.size w11 (w11.alloc (.cells #[.slice jva vs.length jvc, .slice joa os.length joc] 29)) := bl
 have HXj12 := Lib.hid (boxAt (Below.refl _ (w11.alloc (.cells #[.slice jva vs.length jvc, .slice joa os.length joc] 29))))
 generalize w11.alloc (.cells #[.slice jva vs.length jvc, .slice joa os.length joc] 29) = w12 at hb HXj12 ⊢
 have hs12 := hb.size
 have HVA12 := Lib.hid (HVA11.out.below hb (by omega))
 have HOA12 := Lib.hid (HOA11.out.below hb (by omega))
 have HVB12 := Lib.hid (HVB11.out.below hb (by omega))
 have HOB12 := Lib.hid (HOB11.out.below hb (by omega))
 have HB12 := Lib.hid (HB11.out.trans (hb.mono (by omega)))
 have HXa12 := Lib.hid ((hb.block _ (lt_of_row HXa11.out)).trans HXa11.out)
 have HXb12 := Lib.hid ((hb.block _ (lt_of_row HXb11.out)).trans HXb11.out)
 have HVM12 := Lib.hid (HVM11.out.below hb (by omega))
 have HOM12 := Lib.hid (HOM11.out.below hb (by omega))
 have HXm12 := Lib.hid ((hb.block _ (lt_of_row HXm11.out)).trans HXm11.out)
 have HVW12 := Lib.hid (HVW11.out.below hb (by omega))
 have HOW12 := Lib.hid (HOW11.out.below hb (by omega))
 have HXw12 := Lib.hid ((hb.block _ (lt_of_row HXw11.out)).trans HXw11.out)
 have HVG12 := Lib.hid (HVG11.out.below hb (by omega))
 have HOG12 := Lib.hid (HOG11.out.below hb (by omega))
 have HXg12 := Lib.hid ((hb.block _ (lt_of_row HXg11.out)).trans HXg11.out)
 have HVH12 := Lib.hid (HVH11.out.below hb (by omega))
 have HOH12 := Lib.hid (HOH11.out.below hb (by omega))
 have HXh12 := Lib.hid ((hb.block _ (lt_of_row HXh11.out)).trans HXh11.out)
 have HVJ12 := Lib.hid (HVJ11.out.below hb (by omega))
 have HOJ12 := Lib.hid (HOJ11.out.below hb (by omega))
 clear hb HVA11 HOA11 HVB11 HOB11 HB11 HXa11 HXb11 HVM11 HOM11 HXm11 HVW11 HOW11 HXw11 HVG11 HOG11 HXg11 HVH11 HOH11 HXh11 HVJ11 HOJ11
 obtain ⟨c00, c01⟩ := pair_cells HXm12.out
 go_wp2_with fail
 refine (implCartOk w12 w12.heap.size mva moa vs.length mvc os.length moc vs os (HVM12.out.more (by omega)) (HOM12.out.more (by omega)) (Nat.le_refl _) (by omega) HCm.out.1 ⟨by omega, HCm.out.2.1⟩).mono ?_
 rintro e w13 ⟨rfl, hb⟩
 rw [HCC.out]
 clear c00 c01
 have hs13 := hb.size
 have HVA13 := Lib.hid (HVA12.out.below hb (by omega))
 have HOA13 := Lib.hid (HOA12.out.below hb (by omega))
 have HVB13 := Lib.hid (HVB12.out.below hb (by omega))
 have HOB13 := Lib.hid (HOB12.out.below hb (by omega))
 have HB13 := Lib.hid (HB12.out.trans (hb.mono (by omega)))
 have HXa13 := Lib.hid ((hb.block _ (lt_of_row HXa12.out)).trans HXa12.out)
 have HXb13 := Lib.hid ((hb.block _ (lt_of_row HXb12.out)).trans HXb12.out)
 have HVM13 := Lib.hid (HVM12.out.below hb (by omega))
 have HOM13 := Lib.hid (HOM12.out.below hb (by omega))
 have HXm13 := Lib.hid ((hb.block _ (lt_of_row HXm12.out)).trans HXm12.out)
 have HVW13 := Lib.hid (HVW12.out.below hb (by omega))
 have HOW13 := Lib.hid (HOW12.out.below hb (by omega))
 have HXw13 := Lib.hid ((hb.block _ (lt_of_row HXw12.out)).trans HXw12.out)
 have HVG13 := Lib.hid (HVG12.out.below hb (by omega))
 have HOG13 := Lib.hid (HOG12.out.below hb (by omega))
 have HXg13 := Lib.hid ((hb.block _ (lt_of_row HXg12.out)).trans HXg12.out)
 have HVH13 := Lib.hid (HVH12.out.below hb (by omega))
 have HOH13 := Lib.hid (HOH12.out.below hb (by omega))
 have HXh13 := Lib.hid ((hb.block _ (lt_of_row HXh12.out)).trans HXh12.out)
 have HVJ13 := Lib.hid (HVJ12.out.below hb (by omega))
 have HOJ13 := Lib.hid (HOJ12.out.below hb (by omega))
 have HXj13 := Lib.hid ((hb.block _ (lt_of_row HXj12.out)).trans HXj12.out)
 clear hb HVA12 HOA12 HVB12 HOB12 HB12 HXa12 HXb12 HVM12 HOM12 HXm12 HVW12 HOW12 HXw12 HVG12 HOG12 HXg12 HVH12 HOH12 HXh12 HVJ12 HOJ12 HXj12
 obtain ⟨c00, c01⟩ := pair_cells HXa13.out
 obtain ⟨c10, c11⟩ := pair_cells HXm13.out
 go_wp2_with fail
 have hc := implWithinC w13 w13.heap.size ava aoa mva moa 4 avc l.length aoc vs.length mvc os.length moc xs l vs os (HVA13.out.more (by omega)) (HOA13.out.more (by omega)) (HVM13.out.more (by omega)) (HOM13.out.more (by omega)) (Nat.le_refl _) (by omega) HCa.out.1 ⟨by omega, HCa.out.2.1⟩ (by omega) HCm.out.1 ⟨by omega, HCm.out.2.1⟩
 rw [HIN.out] at hc
 refine hc.mono ?_
 clear hc
 rintro e w14 ⟨rfl, hb⟩
 clear c00 c01 c10 c11
 have hs14 := hb.size
 have HVA14 := Lib.hid (HVA13.out.below hb (by omega))
 have HOA14 := Lib.hid (HOA13.out.below hb (by omega))
 have HVB14 := Lib.hid (HVB13.out.below hb (by omega))
 have HOB14 := Lib.hid (HOB13.out.below hb (by omega))
 have HB14 := Lib.hid (HB13.out.trans (hb.mono (by omega)))
 have HXa14 := Lib.hid ((hb.block _ (lt_of_row HXa13.out)).trans HXa13.out)
 have HXb14 := Lib.hid ((hb.block _ (lt_of_row HXb13.out)).trans HXb13.out)
 have HVM14 := Lib.hid (HVM13.out.below hb (by omega))
 have HOM14 := Lib.hid (HOM13.out.below hb (by omega))
 have HXm14 := Lib.hid ((hb.block _ (lt_of_row HXm13.out)).trans HXm13.out)
 have HVW14 := Lib.hid (HVW13.out.below hb (by omega))
 have HOW14 := Lib.hid (HOW13.out.below hb (by omega))
 have HXw14 := Lib.hid ((hb.block _ (lt_of_row HXw13.out)).trans HXw13.out)
 have HVG14 := Lib.hid (HVG13.out.below hb (by omega))
 have HOG14 := Lib.hid (HOG13.out.below hb (by omega))
 have HXg14 := Lib.hid ((hb.block _ (lt_of_row HXg13.out)).trans HXg13.out)
 have HVH14 := Lib.hid (HVH13.out.below hb (by omega))
 have HOH14 := Lib.hid (HOH13.out.below hb (by omega))
 have HXh14 := Lib.hid ((hb.block _ (lt_of_row HXh13.out)).trans HXh13.out)
 have HVJ14 := Lib.hid (HVJ13.out.below hb (by omega))
 have HOJ14 := Lib.hid (HOJ13.out.below hb (by omega))
 have HXj14 := Lib.hid ((hb.block _ (lt_of_row HXj13.out)).trans HXj13.out)
 clear hb HVA13 HOA13 HVB13 HOB13 HB13 HXa13 HXb13 HVM13 HOM13 HXm13 HVW13 HOW13 HXw13 HVG13 HOG13 HXg13 HVH13 HOH13 HXh13 HVJ13 HOJ13 HXj13
 obtain ⟨c00, c01⟩ := pair_cells HXg14.out
 obtain ⟨c10, c11⟩ := pair_cells HXm14.out
 go_wp2_with fail
 refine (sameCart w14 w14.heap.size gva goa mva moa vs.length gvc os.length goc vs.length mvc os.length moc vs os vs os (HVG14.out.more (by omega)) (HOG14.out.more (by omega)) (HVM14.out.more (by omega)) (HOM14.out.more (by omega)) (Nat.le_refl _) (by omega) (by omega) (by omega) (by omega)).mono ?_
 rintro e w15 ⟨rfl, hb⟩
 rw [decide_eq_true rfl, decide_eq_true rfl]
 clear c00 c01 c10 c11
 have hs15 := hb.size
 have HVA15 := Lib.hid (HVA14.out.below hb (by omega))
 have HOA15 := Lib.hid (HOA14.out.below hb (by omega))
 have HVB15 := Lib.hid (HVB14.out.below hb (by omega))
 have HOB15 := Lib.hid (HOB14.out.below hb (by omega))
 have HB15 := Lib.hid (HB14.out.trans (hb.mono (by omega)))
 have HXa15 := Lib.hid ((hb.block _ (lt_of_row HXa14.out)).trans HXa14.out)
 have HXb15 := Lib.hid ((hb.block _ (lt_of_row HXb14.out)).trans HXb14.out)
 have HVM15 := Lib.hid (HVM14.out.below hb (by omega))
 have HOM15 := Lib.hid (HOM14.out.below hb (by omega))
 have HXm15 := Lib.hid ((hb.block _ (lt_of_row HXm14.out)).trans HXm14.out)
 have HVW15 := Lib.hid (HVW14.out.below hb (by omega))
 have HOW15 := Lib.hid (HOW14.out.below hb (by omega))
 have HXw15 := Lib.hid ((hb.block _ (lt_of_row HXw14.out)).trans HXw14.out)
 have HVG15 := Lib.hid (HVG14.out.below hb (by omega))
 have HOG15 := Lib.hid (HOG14.out.below hb (by omega))
 have HXg15 := Lib.hid ((hb.block _ (lt_of_row HXg14.out)).trans HXg14.out)
 have HVH15 := Lib.hid (HVH14.out.below hb (by omega))
 have HOH15 := Lib.hid (HOH14.out.below hb (by omega))
 have HXh15 := Lib.hid ((hb.block _ (lt_of_row HXh14.out)).trans HXh14.out)
 have HVJ15 := Lib.hid (HVJ14.out.below hb (by omega))
 have HOJ15 := Lib.hid (HOJ14.out.below hb (by omega))
 have HXj15 := Lib.hid ((hb.block _ (lt_of_row HXj14.out)).trans HXj14.out)
 clear hb HVA14 HOA14 HVB14 HOB14 HB14 HXa14 HXb14 HVM14 HOM14 HXm14 HVW14 HOW14 HXw14 HVG14 HOG14 HXg14 HVH14 HOH14 HXh14 HVJ14 HOJ14 HXj14
 obtain ⟨c00, c01⟩ := pair_cells HXh15.out
 obtain ⟨c10, c11⟩ := pair_cells HXj15.out
 go_wp2_with fail
 refine (sameCart w15 w15.heap.size hva hoa jva joa vs.length hvc os.length hoc vs.length jvc os.length joc vs os vs os (HVH15.out.more (by omega)) (HOH15.out.more (by omega)) (HVJ15.out.more (by omega)) (HOJ15.out.more (by omega)) (Nat.le_refl _) (by omega) (by omega) (by omega) (by omega)).mono ?_
 rintro e w16 ⟨rfl, hb⟩
 rw [decide_eq_true rfl, decide_eq_true rfl]
 clear c00 c01 c10 c11
 have hs16 := hb.size
 have HVA16 := Lib.hid (HVA15.out.below hb (by omega))
 have HOA16 := Lib.hid (HOA15.out.below hb (by omega))
 have HVB16 := Lib.hid (HVB15.out.below hb (by omega))
 have HOB16 := Lib.hid (HOB15.out.below hb (by omega))
 have HB16 := Lib.hid (HB15.out.trans (hb.mono (by omega)))
 have HXa16 := Lib.hid ((hb.block _ (lt_of_row HXa15.out)).trans HXa15.out)
 have HXb16 := Lib.hid ((hb.block _ (lt_of_row HXb15.out)).trans HXb15.out)
 have HVM16 := Lib.hid (HVM15.out.below hb (by omega))
 have HOM16 := Lib.hid (HOM15.out.below hb (by omega))
 have HXm16 := Lib.hid ((hb.block _ (lt_of_row HXm15.out)).trans HXm15.out)
 have HVW16 := Lib.hid (HVW15.out.below hb (by omega))
 have HOW16 := Lib.hid (HOW15.out.below hb (by omega))
 have HXw16 := Lib.hid ((hb.block _ (lt_of_row HXw15.out)).trans HXw15.out)
 have HVG16 := Lib.hid (HVG15.out.below hb (by omega))
 have HOG16 := Lib.hid (HOG15.out.below hb (by omega))
 have HXg16 := Lib.hid ((hb.block _ (lt_of_row HXg15.out)).trans HXg15.out)
 have HVH16 := Lib.hid (HVH15.out.below hb (by omega))
 have HOH16 := Lib.hid (HOH15.out.below hb (by omega))
 have HXh16 := Lib.hid ((hb.block _ (lt_of_row HXh15.out)).trans HXh15.out)
 have HVJ16 := Lib.hid (HVJ15.out.below hb (by omega))
 have HOJ16 := Lib.hid (HOJ15.out.below hb (by omega))
 have HXj16 := Lib.hid ((hb.block _ (lt_of_row HXj15.out)).trans HXj15.out)
 clear hb HVA15 HOA15 HVB15 HOB15 HB15 HXa15 HXb15 HVM15 HOM15 HXm15 HVW15 HOW15 HXw15 HVG15 HOG15 HXg15 HVH15 HOH15 HXh15 HVJ15 HOJ15 HXj15
 go_wp2
 go_ret
 exact ⟨rfl, HB16.out⟩
end Go.Proofs.Ytdbdmfaphdjdpaa
