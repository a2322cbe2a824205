/- The walks of impl.CartNew and spec.DrawWithin. -/
import Derived.Test.YthfkoplljinmmaaGb34
import Derived.Test.YthfkoplljinmmaaGb26
import Derived.Deep.Cut
import Derived.Test.YthfkoplljinmmaaGbS
namespace Go.Proofs.Ythfkoplljinmmaa
open Go.RowKit
set_option linter.unusedVariables false
set_option linter.unusedSimpArgs false

def CartNewPost (w : World) (e : Ending) (w' : World) : Prop :=
  ∃ a cap, e = .returned (.agg #[.slice a 4 cap, .slice none 0 0]) ∧ Own w' w.heap.size w'.heap.size a 4 [0, 0, 0, 0] ∧ Below w.heap.size w w'
set_option maxRecDepth 100000 in
theorem implCartNew (w : World) : Calls Try.prog 22 #[] w (CartNewPost w) := by
  go_enter Try.func22, Try.ntmps22
  go_wp2_with fail
  refine (vlist _ 0 0 0 0).mono ?_
  rintro e w1 ⟨a, cap, rfl, ho, hb⟩
  have hx := boxAt hb
  have HB := Lib.hid (box_below hb)
  obtain ⟨c0, c1⟩ := pair_cells hx
  obtain ⟨f0, f1⟩ := pair_frozen hx
  have HX := Lib.hid (pair_set (.slice a 4 cap) (.slice none 0 0) hx)
  have HO : Hid (Own ((w1.setCell ⟨w.heap.size, 0, none⟩ (.slice a 4 cap)).setCell ⟨w.heap.size, 1, none⟩ (.slice none 0 0)) w.heap.size w1.heap.size a 4 [0, 0, 0, 0]) := (Own.kept ho fun j h1 h2 => pair_other _ _ (by have : w.heap.size < (w.alloc (.cells #[.slice none 0 0, .slice none 0 0] 27)).heap.size := by { show _ < (w.heap.push _).size; simp }; omega)).more (by show _ ≤ (w.heap.push _).size; simp) (Nat.le_refl _)
  have HBf := Lib.hid ((HB.out.setCell (p := ⟨w.heap.size, 0, none⟩) (Nat.le_refl _) (.slice a 4 cap)).setCell (p := ⟨w.heap.size, 1, none⟩) (Nat.le_refl _) (.slice none 0 0))
  have hsz := Lib.hid (pair_size w1 w.heap.size (.slice a 4 cap) (.slice none 0 0))
  clear hx hb ho
  go_wp2
  generalize (w1.setCell ⟨w.heap.size, 0, none⟩ (.slice a 4 cap)).setCell ⟨w.heap.size, 1, none⟩ (.slice none 0 0) = wf at HX HO HBf hsz ⊢
  obtain ⟨d0, d1⟩ := pair_cells HX.out
  exact bodyPost_ret (v := .agg #[.slice a 4 cap, .slice none 0 0]) (by simp [results, Try.results22, go_sem, d0, d1]) rfl ⟨a, cap, rfl, HO.out.more (Nat.le_refl _) (Nat.le_of_eq hsz.out.symm), HBf.out⟩
theorem cart_zero : cartB [0, 0, 0, 0] [] = true := by decide
theorem in_zero {xs : List Int} {l : List OpV} (h : cartB xs l = true) : inCart [0, 0, 0, 0] [] xs l = true := by
  rw [inCart_3 cart_zero h]
  exact allW_end fun i hi => absurd hi (by simp)
/-- Two blocks for results, laid first. -/
structure D3 (w wr : World) (u v : Array Value) : Prop where
  ra : wr.heap[w.heap.size]? = some (.cells u 27 (0, 0))
  rb : wr.heap[w.heap.size + 1]? = some (.cells v 27 (0, 0))
  bel : Below w.heap.size w wr
theorem D3.next {w wr w1 : World} {u v : Array Value} (h : D3 w wr u v) (hb : Below wr.heap.size wr w1) : D3 w w1 u v :=
  ⟨(hb.block _ (lt_of_row h.ra)).trans h.ra, (hb.block _ (lt_of_row h.rb)).trans h.rb, h.bel.trans (hb.mono h.bel.size)⟩
theorem D3.out {w z : World} {u0 u1 v0 v1 : Value} {x y : CartC} (h : D3 w z #[u0, u1] #[v0, v1]) (hx : Crw z w.heap.size z.heap.size x) (hy : Crw z w.heap.size z.heap.size y) :
    Hid (((((z.setCell ⟨w.heap.size, 0, none⟩ (.slice x.va 4 x.vc)).setCell ⟨w.heap.size, 1, none⟩ (.slice x.oa x.no x.oc)).setCell ⟨w.heap.size + 1, 0, none⟩ (.slice y.va 4 y.vc)).setCell ⟨w.heap.size + 1, 1, none⟩ (.slice y.oa y.no y.oc)).heap[w.heap.size]? = some (.cells #[.slice x.va 4 x.vc, .slice x.oa x.no x.oc] 27 (0, 0))) ∧
    Hid (((((z.setCell ⟨w.heap.size, 0, none⟩ (.slice x.va 4 x.vc)).setCell ⟨w.heap.size, 1, none⟩ (.slice x.oa x.no x.oc)).setCell ⟨w.heap.size + 1, 0, none⟩ (.slice y.va 4 y.vc)).setCell ⟨w.heap.size + 1, 1, none⟩ (.slice y.oa y.no y.oc)).heap[w.heap.size + 1]? = some (.cells #[.slice y.va 4 y.vc, .slice y.oa y.no y.oc] 27 (0, 0))) ∧
    Hid (DrawsTwo w (.returned (.tuple #[.agg #[.slice x.va 4 x.vc, .slice x.oa x.no x.oc], .agg #[.slice y.va 4 y.vc, .slice y.oa y.no y.oc]])) ((((z.setCell ⟨w.heap.size, 0, none⟩ (.slice x.va 4 x.vc)).setCell ⟨w.heap.size, 1, none⟩ (.slice x.oa x.no x.oc)).setCell ⟨w.heap.size + 1, 0, none⟩ (.slice y.va 4 y.vc)).setCell ⟨w.heap.size + 1, 1, none⟩ (.slice y.oa y.no y.oc))) := by
  have e1 := pair_set (.slice x.va 4 x.vc) (.slice x.oa x.no x.oc) h.ra
  have hb : ((z.setCell ⟨w.heap.size, 0, none⟩ (.slice x.va 4 x.vc)).setCell ⟨w.heap.size, 1, none⟩ (.slice x.oa x.no x.oc)).heap[w.heap.size + 1]? = some (.cells #[v0, v1] 27 (0, 0)) := (pair_other _ _ (by omega)).trans h.rb
  have e2 := pair_set (.slice y.va 4 y.vc) (.slice y.oa y.no y.oc) hb
  have z1 := pair_size z w.heap.size (.slice x.va 4 x.vc) (.slice x.oa x.no x.oc)
  have z2 := pair_size ((z.setCell ⟨w.heap.size, 0, none⟩ (.slice x.va 4 x.vc)).setCell ⟨w.heap.size, 1, none⟩ (.slice x.oa x.no x.oc)) (w.heap.size + 1) (.slice y.va 4 y.vc) (.slice y.oa y.no y.oc)
  have kp : ∀ c : CartC, Crw z w.heap.size z.heap.size c → Crw ((((z.setCell ⟨w.heap.size, 0, none⟩ (.slice x.va 4 x.vc)).setCell ⟨w.heap.size, 1, none⟩ (.slice x.oa x.no x.oc)).setCell ⟨w.heap.size + 1, 0, none⟩ (.slice y.va 4 y.vc)).setCell ⟨w.heap.size + 1, 1, none⟩ (.slice y.oa y.no y.oc)) w.heap.size ((((z.setCell ⟨w.heap.size, 0, none⟩ (.slice x.va 4 x.vc)).setCell ⟨w.heap.size, 1, none⟩ (.slice x.oa x.no x.oc)).setCell ⟨w.heap.size + 1, 0, none⟩ (.slice y.va 4 y.vc)).setCell ⟨w.heap.size + 1, 1, none⟩ (.slice y.oa y.no y.oc)).heap.size c := fun c hc => by
    rw [z2, z1]
    have c1 : Crw ((z.setCell ⟨w.heap.size, 0, none⟩ (.slice x.va 4 x.vc)).setCell ⟨w.heap.size, 1, none⟩ (.slice x.oa x.no x.oc)) w.heap.size z.heap.size c := hc.other h.ra fun j _ _ hne => pair_other _ _ hne
    exact c1.other hb fun j _ _ hne => pair_other _ _ hne
  exact ⟨(pair_other _ _ (by omega)).trans e1, e2, x, y, rfl, kp x hx, kp y hy, (h.bel.trans (below_set2 z w.heap.size 0 1 _ _)).trans ((below_set2 _ (w.heap.size + 1) 0 1 _ _).mono (by omega))⟩
theorem mergedCrw (w : World) (lo1 hi1 lo2 hi2 : Nat) (x y : CartC) (hx : Crw w lo1 hi1 x) (hy : Crw w lo2 hi2 y) (h1 : hi1 ≤ w.heap.size) (h2 : hi2 ≤ w.heap.size) :
    Calls Try.prog 18 #[.agg #[.slice x.va 4 x.vc, .slice x.oa x.no x.oc], .agg #[.slice y.va 4 y.vc, .slice y.oa y.no y.oc]] w (MrgW w) := by
  obtain ⟨xs, l, e1, a1, a2, a3, a4, a5, a6⟩ := hx
  obtain ⟨ys, m, e2, b1, b2, b3, b4, b5, b6⟩ := hy
  rw [e1, e2]
  refine (specMergedC w w.heap.size x.va x.oa y.va y.oa 4 x.vc l.length x.oc 4 y.vc m.length y.oc xs l ys m (a1.ints.more h1) (a2.ops.more h1) (b1.ints.more h2) (b2.ops.more h2) (Nat.le_refl _) (by omega) (by omega) (fun i hi => Nat.le_trans (a5 i hi) (by omega)) (by omega) (by omega) (fun i hi => Nat.le_trans (b5 i hi) (by omega))).mono ?_
  rintro e w' ⟨va, vc, oa, oc, rfl, o1, o2, hb, c1, c2⟩
  refine ⟨va, _, vc, oa, _, oc, _, rfl, hb, fun hR => ?_⟩
  have hp := mergedB_parts hR
  have hc := Bnd.of_cart (cart_merged hp.1 hp.2.1 hp.2.2)
  rw [hR] at o1 o2 c1 c2 ⊢
  have hl : (mergedVs xs ys true).length = 4 := hc.len
  rw [hl] at o1 c1
  exact ⟨hl, mergedVs xs ys true, mergedOs xs ys l m true, rfl, o1, o2, c1, c2, Bnd.more hc (by omega)⟩

set_option maxRecDepth 100000 in
set_option maxHeartbeats 16000000 in
theorem drawWithin2 (w : World) (B : Nat) (a : Option Addr) (len cap : Nat) (hB : B ≤ w.heap.size) (h : Src w B a len) :
    Calls Try.prog 23 #[.slice a len cap] w (DrawsTwo w) := by
  have hT := Two.mk0 w #[.slice none 0 0, .slice none 0 0] #[.slice none 0 0, .slice none 0 0] 27
  have HS0 := Lib.hid (h.kept (w' := (w.alloc (.cells #[.slice none 0 0, .slice none 0 0] 27)).alloc (.cells #[.slice none 0 0, .slice none 0 0] 27)) fun k hk => hT.bel.block k (by omega))
  have HD0 : Hid (D3 w ((w.alloc (.cells #[.slice none 0 0, .slice none 0 0] 27)).alloc (.cells #[.slice none 0 0, .slice none 0 0] 27)) #[.slice none 0 0, .slice none 0 0] #[.slice none 0 0, .slice none 0 0]) := ⟨hT.fst, hT.snd, hT.bel⟩
  clear h hT
  go_enter Try.func23, Try.ntmps23
  go_wp2_with fail
  generalize (w.alloc (.cells #[.slice none 0 0, .slice none 0 0] 27)).alloc (.cells #[.slice none 0 0, .slice none 0 0] 27) = w0 at HS0 HD0 ⊢
  have hs0 := HD0.out.bel.size
  have hlt0 := lt_of_row HD0.out.rb
  refine (drawMerged w0 B a len cap (by omega) HS0.out).mono ?_
  rintro e w1 ⟨x, y, rfl, hx, hy, hb1⟩
  have HX1 := Lib.hid hx
  have HY1 := Lib.hid hy
  have HD1 := Lib.hid (HD0.out.next hb1)
  have HS1 := Lib.hid (src_below HS0.out (hb1.mono (by omega)))
  have hs1 := hb1.size
  clear hx hy hb1 HD0 HS0
  go_upto_region 2 with fail
  have hT := Two.mk0 w1 #[.slice x.va 4 x.vc, .slice x.oa x.no x.oc] #[.slice y.va 4 y.vc, .slice y.oa y.no y.oc] 27
  have hb := hT.bel
  have HXa2 := Lib.hid hT.fst
  have HXb2 := Lib.hid hT.snd
  clear hT
  generalize (w1.alloc (.cells #[.slice x.va 4 x.vc, .slice x.oa x.no x.oc] 27)).alloc (.cells #[.slice y.va 4 y.vc, .slice y.oa y.no y.oc] 27) = w2 at hb HXa2 HXb2 ⊢
  have HX2 := Lib.hid (HX1.out.kept fun j _ h2 => hb.block j h2)
  have HY2 := Lib.hid (HY1.out.kept fun j _ h2 => hb.block j h2)
  have HD2 := Lib.hid (HD1.out.next hb)
  have HS2 := Lib.hid (src_below HS1.out (hb.mono (by omega)))
  have hs2 := hb.size
  have hl2 := lt_of_row HXb2.out
  clear hb HX1 HY1 HD1 HS1
  go_wp2_with fail
  refine (l1Open w2 B a len cap (by omega) HS2.out).mono ?_
  rintro e w3 ⟨rfl, hg3, hr3⟩
  have hb3 : Below w2.heap.size w2 w3 := below_none hg3 (Nat.le_refl _)
  have hs3 := hb3.size
  go_wp2_with fail
  refine (once w3 B w2.heap.size a len cap hr3 2 (by omega) (by omega)).mono ?_
  rintro e w4 ⟨o1, rfl, hg4, hr4⟩
  have hb : Below w2.heap.size w2 w4 := hb3.trans ⟨hg4.os, hg4.tape, hg4.output, hg4.size, fun k hk => hg4.block k (by omega) (by intro e; injection e with e; omega)⟩
  have HX4 := Lib.hid (HX2.out.kept fun j _ h2 => hb.block j (by omega))
  have HY4 := Lib.hid (HY2.out.kept fun j _ h2 => hb.block j (by omega))
  have HD4 := Lib.hid (HD2.out.next hb)
  have HXa4 := Lib.hid ((hb.block _ (lt_of_row HXa2.out)).trans HXa2.out)
  have HXb4 := Lib.hid ((hb.block _ (lt_of_row HXb2.out)).trans HXb2.out)
  have hs4 := hb.size
  clear hb hb3 hg3 hr3 hg4 hr4 HX2 HY2 HD2 HXa2 HXb2 HS2
  generalize hg1 : w1.heap.size = g1 at *
  have hcd : w.heap.size + 1 < g1 := by omega
  cases o1
  · skip
    go_upto_region 7 with fail
    obtain ⟨zz, hze⟩ : ∃ z, w4.drew = z := ⟨_, rfl⟩
    have hS : w4.drew.cell? ⟨g1, 0, none⟩ = some (.slice x.va 4 x.vc) ∧ w4.drew.cell? ⟨g1, 1, none⟩ = some (.slice x.oa x.no x.oc) ∧ w4.drew.cell? ⟨(g1 + 1), 0, none⟩ = some (.slice y.va 4 y.vc) ∧ w4.drew.cell? ⟨(g1 + 1), 1, none⟩ = some (.slice y.oa y.no y.oc) := ⟨(pair_cells HXa4.out).1, (pair_cells HXa4.out).2, (pair_cells HXb4.out).1, (pair_cells HXb4.out).2⟩
    have gz : Below w4.heap.size w4 zz := by rw [← hze]; exact ⟨rfl, rfl, rfl, Nat.le_refl _, fun _ _ => rfl⟩
    have HDz := Lib.hid (HD4.out.next gz)
    have HXz := Lib.hid ((HX4.out.kept (w' := zz) fun j _ h2 => gz.block j (by omega)).more (lo' := w.heap.size) (hi' := zz.heap.size) (by omega) (by have := gz.size; omega))
    have HYz := Lib.hid ((HY4.out.kept (w' := zz) fun j _ h2 => gz.block j (by omega)).more (lo' := w.heap.size) (hi' := zz.heap.size) (by omega) (by have := gz.size; omega))
    rw [hze] at hS
    refine wp_region_held_drew (S := fun w' => w'.cell? ⟨g1, 0, none⟩ = some (.slice x.va 4 x.vc) ∧ w'.cell? ⟨g1, 1, none⟩ = some (.slice x.oa x.no x.oc) ∧ w'.cell? ⟨(g1 + 1), 0, none⟩ = some (.slice y.va 4 y.vc) ∧ w'.cell? ⟨(g1 + 1), 1, none⟩ = some (.slice y.oa y.no y.oc)) (by kernel_rfl) (by rw [hze]; exact hS) (fun hHeld => ?_)
    rw [hze]
    clear hHeld hze gz
    refine wpAnyH_take (i := 0) (oi := { dst := some 27, op := Op.load 27 (Operand.tmp 4), type := 27, pos := "l04_carts.go:204", after := #[], guard := none }) (v := ?_) rfl (by kernel_rfl) (by kernel_rfl) (by kernel_rfl) (fun _ _ _ h => h) (Or.inl ⟨by rfl, ?_⟩) (by assumption) ?_
    rotate_left
    · intro w hSw
      (try dsimp only at hSw)
      first | (go_simp; done) | (go_simp; with_reducible rfl)
    (try simp only [Act.put, List.setIfInBounds_toArray, List.set_cons_zero, List.set_cons_succ])
    refine wpAnyH_take (i := 1) (oi := { dst := some 28, op := Op.load 27 (Operand.tmp 5), type := 27, pos := "l04_carts.go:204", after := #[{ on := 2, ground := Ground.gcOnly Departure.lateStores }], guard := none }) (v := ?_) rfl (by kernel_rfl) (by kernel_rfl) (by kernel_rfl) (fun _ _ _ h => h) (Or.inl ⟨by rfl, ?_⟩) (by assumption) ?_
    rotate_left
    · intro w hSw
      (try dsimp only at hSw)
      first | (go_simp; done) | (go_simp; with_reducible rfl)
    (try simp only [Act.put, List.setIfInBounds_toArray, List.set_cons_zero, List.set_cons_succ])
    obtain ⟨HFa, HFb, HF⟩ := HDz.out.out HXz.out HYz.out
    obtain ⟨r0, r1⟩ := pair_cells HDz.out.ra
    obtain ⟨f0, f1⟩ := pair_frozen HDz.out.ra
    have n1 : g1 ≠ w.heap.size := by omega
    have n2 : g1 ≠ w.heap.size + 1 := by omega
    have n3 : (g1 + 1) ≠ w.heap.size := by omega
    have n4 : (g1 + 1) ≠ w.heap.size + 1 := by omega
    have hSa : ((zz.setCell ⟨w.heap.size, 0, none⟩ (.slice x.va 4 x.vc)).setCell ⟨w.heap.size, 1, none⟩ (.slice x.oa x.no x.oc)).cell? ⟨g1, 0, none⟩ = some (.slice x.va 4 x.vc) ∧ ((zz.setCell ⟨w.heap.size, 0, none⟩ (.slice x.va 4 x.vc)).setCell ⟨w.heap.size, 1, none⟩ (.slice x.oa x.no x.oc)).cell? ⟨g1, 1, none⟩ = some (.slice x.oa x.no x.oc) ∧ ((zz.setCell ⟨w.heap.size, 0, none⟩ (.slice x.va 4 x.vc)).setCell ⟨w.heap.size, 1, none⟩ (.slice x.oa x.no x.oc)).cell? ⟨(g1 + 1), 0, none⟩ = some (.slice y.va 4 y.vc) ∧ ((zz.setCell ⟨w.heap.size, 0, none⟩ (.slice x.va 4 x.vc)).setCell ⟨w.heap.size, 1, none⟩ (.slice x.oa x.no x.oc)).cell? ⟨(g1 + 1), 1, none⟩ = some (.slice y.oa y.no y.oc) := ⟨(World.cell?_of_block (a := ⟨g1, _, none⟩) (pair_other _ _ n1)).trans hS.1, (World.cell?_of_block (a := ⟨g1, _, none⟩) (pair_other _ _ n1)).trans hS.2.1, (World.cell?_of_block (a := ⟨(g1 + 1), _, none⟩) (pair_other _ _ n3)).trans hS.2.2.1, (World.cell?_of_block (a := ⟨(g1 + 1), _, none⟩) (pair_other _ _ n3)).trans hS.2.2.2⟩
    refine wpAnyH_ready (rs := [2]) (by kernel_rfl) (by simp) ?_
    refine AllReadyH.cons (o := { dst := none, op := Op.store 27 (Operand.tmp 2) (Operand.tmp 27), type := 0, pos := "l04_carts.go:204", after := #[{ on := 0, ground := Ground.data }, { on := 0, ground := Ground.phase }, { on := 1, ground := Ground.textOnly Departure.lateStores }], guard := none }) rfl (fun K hK => ?_) AllReadyH.nil
    go_simp
    refine hK.out _ _ hSa (fun hHeld3 => ?_)
    clear hK K
    (try simp only [Act.put, List.setIfInBounds_toArray, List.set_cons_zero, List.set_cons_succ])
    clear r0 r1 f0 f1
    have hrb : ((zz.setCell ⟨w.heap.size, 0, none⟩ (.slice x.va 4 x.vc)).setCell ⟨w.heap.size, 1, none⟩ (.slice x.oa x.no x.oc)).heap[w.heap.size + 1]? = _ := (pair_other _ _ (by omega)).trans HDz.out.rb
    obtain ⟨r0, r1⟩ := pair_cells hrb
    obtain ⟨f0, f1⟩ := pair_frozen hrb
    clear hrb
    have hSb : ((((zz.setCell ⟨w.heap.size, 0, none⟩ (.slice x.va 4 x.vc)).setCell ⟨w.heap.size, 1, none⟩ (.slice x.oa x.no x.oc)).setCell ⟨w.heap.size + 1, 0, none⟩ (.slice y.va 4 y.vc)).setCell ⟨w.heap.size + 1, 1, none⟩ (.slice y.oa y.no y.oc)).cell? ⟨g1, 0, none⟩ = some (.slice x.va 4 x.vc) ∧ ((((zz.setCell ⟨w.heap.size, 0, none⟩ (.slice x.va 4 x.vc)).setCell ⟨w.heap.size, 1, none⟩ (.slice x.oa x.no x.oc)).setCell ⟨w.heap.size + 1, 0, none⟩ (.slice y.va 4 y.vc)).setCell ⟨w.heap.size + 1, 1, none⟩ (.slice y.oa y.no y.oc)).cell? ⟨g1, 1, none⟩ = some (.slice x.oa x.no x.oc) ∧ ((((zz.setCell ⟨w.heap.size, 0, none⟩ (.slice x.va 4 x.vc)).setCell ⟨w.heap.size, 1, none⟩ (.slice x.oa x.no x.oc)).setCell ⟨w.heap.size + 1, 0, none⟩ (.slice y.va 4 y.vc)).setCell ⟨w.heap.size + 1, 1, none⟩ (.slice y.oa y.no y.oc)).cell? ⟨(g1 + 1), 0, none⟩ = some (.slice y.va 4 y.vc) ∧ ((((zz.setCell ⟨w.heap.size, 0, none⟩ (.slice x.va 4 x.vc)).setCell ⟨w.heap.size, 1, none⟩ (.slice x.oa x.no x.oc)).setCell ⟨w.heap.size + 1, 0, none⟩ (.slice y.va 4 y.vc)).setCell ⟨w.heap.size + 1, 1, none⟩ (.slice y.oa y.no y.oc)).cell? ⟨(g1 + 1), 1, none⟩ = some (.slice y.oa y.no y.oc) := ⟨(World.cell?_of_block (a := ⟨g1, _, none⟩) ((pair_other _ _ n2).trans (pair_other _ _ n1))).trans hS.1, (World.cell?_of_block (a := ⟨g1, _, none⟩) ((pair_other _ _ n2).trans (pair_other _ _ n1))).trans hS.2.1, (World.cell?_of_block (a := ⟨(g1 + 1), _, none⟩) ((pair_other _ _ n4).trans (pair_other _ _ n3))).trans hS.2.2.1, (World.cell?_of_block (a := ⟨(g1 + 1), _, none⟩) ((pair_other _ _ n4).trans (pair_other _ _ n3))).trans hS.2.2.2⟩
    refine wpAnyH_ready (rs := [3]) (by kernel_rfl) (by simp) ?_
    refine AllReadyH.cons (o := { dst := none, op := Op.store 27 (Operand.tmp 3) (Operand.tmp 28), type := 0, pos := "l04_carts.go:204", after := #[{ on := 1, ground := Ground.data }, { on := 2, ground := Ground.chain }, { on := 0, ground := Ground.phase }, { on := 1, ground := Ground.phase }, { on := 2, ground := Ground.phase }], guard := none }) rfl (fun K hK => ?_) AllReadyH.nil
    go_simp
    refine hK.out _ _ hSb (fun hHeld4 => ?_)
    clear hK K
    (try simp only [Act.put, List.setIfInBounds_toArray, List.set_cons_zero, List.set_cons_succ])
    refine wpAnyH_done (by kernel_rfl) ?_ _
    clear r0 r1 f0 f1 hSa hSb hS
    generalize (((zz.setCell ⟨w.heap.size, 0, none⟩ (.slice x.va 4 x.vc)).setCell ⟨w.heap.size, 1, none⟩ (.slice x.oa x.no x.oc)).setCell ⟨w.heap.size + 1, 0, none⟩ (.slice y.va 4 y.vc)).setCell ⟨w.heap.size + 1, 1, none⟩ (.slice y.oa y.no y.oc) = wf at HFa HFb HF ⊢
    obtain ⟨p0, p1⟩ := pair_cells HFa.out
    obtain ⟨p2, p3⟩ := pair_cells HFb.out
    go_wp2
    exact bodyPost_ret (v := .tuple #[.agg #[.slice x.va 4 x.vc, .slice x.oa x.no x.oc], .agg #[.slice y.va 4 y.vc, .slice y.oa y.no y.oc]]) (by simp [results, Try.results23, go_sem, p0, p1, p2, p3]) rfl HF.out
  obtain ⟨c0, c1⟩ := pair_cells HXa4.out
  obtain ⟨c2, c3⟩ := pair_cells HXb4.out
  go_wp2_with fail
  refine (mergedCrw w4 _ _ _ _ x y HX4.out HY4.out (by omega) (by omega)).mono ?_
  rintro e w5 ⟨va, nv, vc, oa, no, oc, ok, rfl, hb, hcr⟩
  have hlt4 := lt_of_row HXb4.out
  have HX5 := Lib.hid (HX4.out.kept fun j _ h2 => hb.block j (by omega))
  have HY5 := Lib.hid (HY4.out.kept fun j _ h2 => hb.block j (by omega))
  have HD5 := Lib.hid (HD4.out.next hb)
  have HXa5 := Lib.hid ((hb.block _ (by omega)).trans HXa4.out)
  have HXb5 := Lib.hid ((hb.block _ (by omega)).trans HXb4.out)
  have HCr := Lib.hid hcr
  have hs5 := hb.size
  clear hb hcr c0 c1 c2 c3 HX4 HY4 HD4 HXa4 HXb4
  go_upto_region 5 with fail
  have hb : Below w5.heap.size w5 (w5.alloc (.cells #[.slice va nv vc, .slice oa no oc] 27)) := (Below.refl _ _).alloc (Nat.le_refl _) _
  have HM6 := Lib.hid (boxAt (Below.refl _ (w5.alloc (.cells #[.slice va nv vc, .slice oa no oc] 27))))
  generalize w5.alloc (.cells #[.slice va nv vc, .slice oa no oc] 27) = w6 at hb HM6 ⊢
  have HX6 := Lib.hid (HX5.out.kept fun j _ h2 => hb.block j (by omega))
  have HY6 := Lib.hid (HY5.out.kept fun j _ h2 => hb.block j (by omega))
  have HD6 := Lib.hid (HD5.out.next hb)
  have HXa6 := Lib.hid ((hb.block _ (by omega)).trans HXa5.out)
  have HXb6 := Lib.hid ((hb.block _ (by omega)).trans HXb5.out)
  have HCr6 : Hid (ok = true → nv = 4 ∧ Crw w6 w4.heap.size w5.heap.size ⟨va, vc, oa, no, oc⟩) := fun h => ⟨(HCr.out h).1, (CrtC.weak (x := ⟨va, vc, oa, no, oc⟩) (HCr.out h).2).kept fun j _ h2 => hb.block j h2⟩
  have hs6 := hb.size
  clear hb HX5 HY5 HD5 HXa5 HXb5 HCr
  cases ok
  · skip
    go_upto_region 7 with fail
    obtain ⟨zz, hze⟩ : ∃ z, w6.drew = z := ⟨_, rfl⟩
    have hS : w6.drew.cell? ⟨g1, 0, none⟩ = some (.slice x.va 4 x.vc) ∧ w6.drew.cell? ⟨g1, 1, none⟩ = some (.slice x.oa x.no x.oc) ∧ w6.drew.cell? ⟨(g1 + 1), 0, none⟩ = some (.slice y.va 4 y.vc) ∧ w6.drew.cell? ⟨(g1 + 1), 1, none⟩ = some (.slice y.oa y.no y.oc) := ⟨(pair_cells HXa6.out).1, (pair_cells HXa6.out).2, (pair_cells HXb6.out).1, (pair_cells HXb6.out).2⟩
    have gz : Below w6.heap.size w6 zz := by rw [← hze]; exact ⟨rfl, rfl, rfl, Nat.le_refl _, fun _ _ => rfl⟩
    have HDz := Lib.hid (HD6.out.next gz)
    have HXz := Lib.hid ((HX6.out.kept (w' := zz) fun j _ h2 => gz.block j (by omega)).more (lo' := w.heap.size) (hi' := zz.heap.size) (by omega) (by have := gz.size; omega))
    have HYz := Lib.hid ((HY6.out.kept (w' := zz) fun j _ h2 => gz.block j (by omega)).more (lo' := w.heap.size) (hi' := zz.heap.size) (by omega) (by have := gz.size; omega))
    rw [hze] at hS
    refine wp_region_held_drew (S := fun w' => w'.cell? ⟨g1, 0, none⟩ = some (.slice x.va 4 x.vc) ∧ w'.cell? ⟨g1, 1, none⟩ = some (.slice x.oa x.no x.oc) ∧ w'.cell? ⟨(g1 + 1), 0, none⟩ = some (.slice y.va 4 y.vc) ∧ w'.cell? ⟨(g1 + 1), 1, none⟩ = some (.slice y.oa y.no y.oc)) (by kernel_rfl) (by rw [hze]; exact hS) (fun hHeld => ?_)
    rw [hze]
    clear hHeld hze gz
    refine wpAnyH_take (i := 0) (oi := { dst := some 27, op := Op.load 27 (Operand.tmp 4), type := 27, pos := "l04_carts.go:204", after := #[], guard := none }) (v := ?_) rfl (by kernel_rfl) (by kernel_rfl) (by kernel_rfl) (fun _ _ _ h => h) (Or.inl ⟨by rfl, ?_⟩) (by assumption) ?_
    rotate_left
    · intro w hSw
      (try dsimp only at hSw)
      first | (go_simp; done) | (go_simp; with_reducible rfl)
    (try simp only [Act.put, List.setIfInBounds_toArray, List.set_cons_zero, List.set_cons_succ])
    refine wpAnyH_take (i := 1) (oi := { dst := some 28, op := Op.load 27 (Operand.tmp 5), type := 27, pos := "l04_carts.go:204", after := #[{ on := 2, ground := Ground.gcOnly Departure.lateStores }], guard := none }) (v := ?_) rfl (by kernel_rfl) (by kernel_rfl) (by kernel_rfl) (fun _ _ _ h => h) (Or.inl ⟨by rfl, ?_⟩) (by assumption) ?_
    rotate_left
    · intro w hSw
      (try dsimp only at hSw)
      first | (go_simp; done) | (go_simp; with_reducible rfl)
    (try simp only [Act.put, List.setIfInBounds_toArray, List.set_cons_zero, List.set_cons_succ])
    obtain ⟨HFa, HFb, HF⟩ := HDz.out.out HXz.out HYz.out
    obtain ⟨r0, r1⟩ := pair_cells HDz.out.ra
    obtain ⟨f0, f1⟩ := pair_frozen HDz.out.ra
    have n1 : g1 ≠ w.heap.size := by omega
    have n2 : g1 ≠ w.heap.size + 1 := by omega
    have n3 : (g1 + 1) ≠ w.heap.size := by omega
    have n4 : (g1 + 1) ≠ w.heap.size + 1 := by omega
    have hSa : ((zz.setCell ⟨w.heap.size, 0, none⟩ (.slice x.va 4 x.vc)).setCell ⟨w.heap.size, 1, none⟩ (.slice x.oa x.no x.oc)).cell? ⟨g1, 0, none⟩ = some (.slice x.va 4 x.vc) ∧ ((zz.setCell ⟨w.heap.size, 0, none⟩ (.slice x.va 4 x.vc)).setCell ⟨w.heap.size, 1, none⟩ (.slice x.oa x.no x.oc)).cell? ⟨g1, 1, none⟩ = some (.slice x.oa x.no x.oc) ∧ ((zz.setCell ⟨w.heap.size, 0, none⟩ (.slice x.va 4 x.vc)).setCell ⟨w.heap.size, 1, none⟩ (.slice x.oa x.no x.oc)).cell? ⟨(g1 + 1), 0, none⟩ = some (.slice y.va 4 y.vc) ∧ ((zz.setCell ⟨w.heap.size, 0, none⟩ (.slice x.va 4 x.vc)).setCell ⟨w.heap.size, 1, none⟩ (.slice x.oa x.no x.oc)).cell? ⟨(g1 + 1), 1, none⟩ = some (.slice y.oa y.no y.oc) := ⟨(World.cell?_of_block (a := ⟨g1, _, none⟩) (pair_other _ _ n1)).trans hS.1, (World.cell?_of_block (a := ⟨g1, _, none⟩) (pair_other _ _ n1)).trans hS.2.1, (World.cell?_of_block (a := ⟨(g1 + 1), _, none⟩) (pair_other _ _ n3)).trans hS.2.2.1, (World.cell?_of_block (a := ⟨(g1 + 1), _, none⟩) (pair_other _ _ n3)).trans hS.2.2.2⟩
    refine wpAnyH_ready (rs := [2]) (by kernel_rfl) (by simp) ?_
    refine AllReadyH.cons (o := { dst := none, op := Op.store 27 (Operand.tmp 2) (Operand.tmp 27), type := 0, pos := "l04_carts.go:204", after := #[{ on := 0, ground := Ground.data }, { on := 0, ground := Ground.phase }, { on := 1, ground := Ground.textOnly Departure.lateStores }], guard := none }) rfl (fun K hK => ?_) AllReadyH.nil
    go_simp
    refine hK.out _ _ hSa (fun hHeld3 => ?_)
    clear hK K
    (try simp only [Act.put, List.setIfInBounds_toArray, List.set_cons_zero, List.set_cons_succ])
    clear r0 r1 f0 f1
    have hrb : ((zz.setCell ⟨w.heap.size, 0, none⟩ (.slice x.va 4 x.vc)).setCell ⟨w.heap.size, 1, none⟩ (.slice x.oa x.no x.oc)).heap[w.heap.size + 1]? = _ := (pair_other _ _ (by omega)).trans HDz.out.rb
    obtain ⟨r0, r1⟩ := pair_cells hrb
    obtain ⟨f0, f1⟩ := pair_frozen hrb
    clear hrb
    have hSb : ((((zz.setCell ⟨w.heap.size, 0, none⟩ (.slice x.va 4 x.vc)).setCell ⟨w.heap.size, 1, none⟩ (.slice x.oa x.no x.oc)).setCell ⟨w.heap.size + 1, 0, none⟩ (.slice y.va 4 y.vc)).setCell ⟨w.heap.size + 1, 1, none⟩ (.slice y.oa y.no y.oc)).cell? ⟨g1, 0, none⟩ = some (.slice x.va 4 x.vc) ∧ ((((zz.setCell ⟨w.heap.size, 0, none⟩ (.slice x.va 4 x.vc)).setCell ⟨w.heap.size, 1, none⟩ (.slice x.oa x.no x.oc)).setCell ⟨w.heap.size + 1, 0, none⟩ (.slice y.va 4 y.vc)).setCell ⟨w.heap.size + 1, 1, none⟩ (.slice y.oa y.no y.oc)).cell? ⟨g1, 1, none⟩ = some (.slice x.oa x.no x.oc) ∧ ((((zz.setCell ⟨w.heap.size, 0, none⟩ (.slice x.va 4 x.vc)).setCell ⟨w.heap.size, 1, none⟩ (.slice x.oa x.no x.oc)).setCell ⟨w.heap.size + 1, 0, none⟩ (.slice y.va 4 y.vc)).setCell ⟨w.heap.size + 1, 1, none⟩ (.slice y.oa y.no y.oc)).cell? ⟨(g1 + 1), 0, none⟩ = some (.slice y.va 4 y.vc) ∧ ((((zz.setCell ⟨w.heap.size, 0, none⟩ (.slice x.va 4 x.vc)).setCell ⟨w.heap.size, 1, none⟩ (.slice x.oa x.no x.oc)).setCell ⟨w.heap.size + 1, 0, none⟩ (.slice y.va 4 y.vc)).setCell ⟨w.heap.size + 1, 1, none⟩ (.slice y.oa y.no y.oc)).cell? ⟨(g1 + 1), 1, none⟩ = some (.slice y.oa y.no y.oc) := ⟨(World.cell?_of_block (a := ⟨g1, _, none⟩) ((pair_other _ _ n2).trans (pair_other _ _ n1))).trans hS.1, (World.cell?_of_block (a := ⟨g1, _, none⟩) ((pair_other _ _ n2).trans (pair_other _ _ n1))).trans hS.2.1, (World.cell?_of_block (a := ⟨(g1 + 1), _, none⟩) ((pair_other _ _ n4).trans (pair_other _ _ n3))).trans hS.2.2.1, (World.cell?_of_block (a := ⟨(g1 + 1), _, none⟩) ((pair_other _ _ n4).trans (pair_other _ _ n3))).trans hS.2.2.2⟩
    refine wpAnyH_ready (rs := [3]) (by kernel_rfl) (by simp) ?_
    refine AllReadyH.cons (o := { dst := none, op := Op.store 27 (Operand.tmp 3) (Operand.tmp 28), type := 0, pos := "l04_carts.go:204", after := #[{ on := 1, ground := Ground.data }, { on := 2, ground := Ground.chain }, { on := 0, ground := Ground.phase }, { on := 1, ground := Ground.phase }, { on := 2, ground := Ground.phase }], guard := none }) rfl (fun K hK => ?_) AllReadyH.nil
    go_simp
    refine hK.out _ _ hSb (fun hHeld4 => ?_)
    clear hK K
    (try simp only [Act.put, List.setIfInBounds_toArray, List.set_cons_zero, List.set_cons_succ])
    refine wpAnyH_done (by kernel_rfl) ?_ _
    clear r0 r1 f0 f1 hSa hSb hS
    generalize (((zz.setCell ⟨w.heap.size, 0, none⟩ (.slice x.va 4 x.vc)).setCell ⟨w.heap.size, 1, none⟩ (.slice x.oa x.no x.oc)).setCell ⟨w.heap.size + 1, 0, none⟩ (.slice y.va 4 y.vc)).setCell ⟨w.heap.size + 1, 1, none⟩ (.slice y.oa y.no y.oc) = wf at HFa HFb HF ⊢
    obtain ⟨p0, p1⟩ := pair_cells HFa.out
    obtain ⟨p2, p3⟩ := pair_cells HFb.out
    go_wp2
    exact bodyPost_ret (v := .tuple #[.agg #[.slice x.va 4 x.vc, .slice x.oa x.no x.oc], .agg #[.slice y.va 4 y.vc, .slice y.oa y.no y.oc]]) (by simp [results, Try.results23, go_sem, p0, p1, p2, p3]) rfl HF.out
  obtain ⟨e4, hcw⟩ := HCr6.out rfl
  subst e4
  have HMw := Lib.hid hcw
  clear hcw HCr6
  obtain ⟨y2, hy2⟩ : ∃ y2 : CartC, y2 = ⟨va, vc, oa, no, oc⟩ := ⟨_, rfl⟩
  rw [← hy2] at HMw
  have e1 : va = y2.va := by rw [hy2]
  have e2 : vc = y2.vc := by rw [hy2]
  have e3 : oa = y2.oa := by rw [hy2]
  have e5 : no = y2.no := by rw [hy2]
  have e6 : oc = y2.oc := by rw [hy2]
  subst e1 e2 e3 e5 e6
  clear hy2
  generalize hg5 : w5.heap.size = g5 at *
  have hg5l : w.heap.size + 1 < g5 := by omega
  go_upto_region 6 with fail
  obtain ⟨zz, hze⟩ : ∃ z, w6.drew = z := ⟨_, rfl⟩
  have hS : w6.drew.cell? ⟨g1, 0, none⟩ = some (.slice x.va 4 x.vc) ∧ w6.drew.cell? ⟨g1, 1, none⟩ = some (.slice x.oa x.no x.oc) ∧ w6.drew.cell? ⟨g5, 0, none⟩ = some (.slice y2.va 4 y2.vc) ∧ w6.drew.cell? ⟨g5, 1, none⟩ = some (.slice y2.oa y2.no y2.oc) := ⟨(pair_cells HXa6.out).1, (pair_cells HXa6.out).2, (pair_cells HM6.out).1, (pair_cells HM6.out).2⟩
  have gz : Below w6.heap.size w6 zz := by rw [← hze]; exact ⟨rfl, rfl, rfl, Nat.le_refl _, fun _ _ => rfl⟩
  have HDz := Lib.hid (HD6.out.next gz)
  have HXz := Lib.hid ((HX6.out.kept (w' := zz) fun j _ h2 => gz.block j (by omega)).more (lo' := w.heap.size) (hi' := zz.heap.size) (by omega) (by have := gz.size; omega))
  have HYz := Lib.hid ((HMw.out.kept (w' := zz) fun j _ h2 => gz.block j (by omega)).more (lo' := w.heap.size) (hi' := zz.heap.size) (by omega) (by have := gz.size; omega))
  rw [hze] at hS
  refine wp_region_held_drew (S := fun w' => w'.cell? ⟨g1, 0, none⟩ = some (.slice x.va 4 x.vc) ∧ w'.cell? ⟨g1, 1, none⟩ = some (.slice x.oa x.no x.oc) ∧ w'.cell? ⟨g5, 0, none⟩ = some (.slice y2.va 4 y2.vc) ∧ w'.cell? ⟨g5, 1, none⟩ = some (.slice y2.oa y2.no y2.oc)) (by kernel_rfl) (by rw [hze]; exact hS) (fun hHeld => ?_)
  rw [hze]
  clear hHeld hze gz
  refine wpAnyH_take (i := 0) (oi := { dst := some 25, op := Op.load 27 (Operand.tmp 4), type := 27, pos := "l04_carts.go:201", after := #[], guard := none }) (v := ?_) rfl (by kernel_rfl) (by kernel_rfl) (by kernel_rfl) (fun _ _ _ h => h) (Or.inl ⟨by rfl, ?_⟩) (by assumption) ?_
  rotate_left
  · intro w hSw
    (try dsimp only at hSw)
    first | (go_simp; done) | (go_simp; with_reducible rfl)
  (try simp only [Act.put, List.setIfInBounds_toArray, List.set_cons_zero, List.set_cons_succ])
  refine wpAnyH_take (i := 1) (oi := { dst := some 26, op := Op.load 27 (Operand.tmp 7), type := 27, pos := "l04_carts.go:201", after := #[{ on := 2, ground := Ground.gcOnly Departure.lateStores }], guard := none }) (v := ?_) rfl (by kernel_rfl) (by kernel_rfl) (by kernel_rfl) (fun _ _ _ h => h) (Or.inl ⟨by rfl, ?_⟩) (by assumption) ?_
  rotate_left
  · intro w hSw
    (try dsimp only at hSw)
    first | (go_simp; done) | (go_simp; with_reducible rfl)
  (try simp only [Act.put, List.setIfInBounds_toArray, List.set_cons_zero, List.set_cons_succ])
  obtain ⟨HFa, HFb, HF⟩ := HDz.out.out HXz.out HYz.out
  obtain ⟨r0, r1⟩ := pair_cells HDz.out.ra
  obtain ⟨f0, f1⟩ := pair_frozen HDz.out.ra
  have n1 : g1 ≠ w.heap.size := by omega
  have n2 : g1 ≠ w.heap.size + 1 := by omega
  have n3 : g5 ≠ w.heap.size := by omega
  have n4 : g5 ≠ w.heap.size + 1 := by omega
  have hSa : ((zz.setCell ⟨w.heap.size, 0, none⟩ (.slice x.va 4 x.vc)).setCell ⟨w.heap.size, 1, none⟩ (.slice x.oa x.no x.oc)).cell? ⟨g1, 0, none⟩ = some (.slice x.va 4 x.vc) ∧ ((zz.setCell ⟨w.heap.size, 0, none⟩ (.slice x.va 4 x.vc)).setCell ⟨w.heap.size, 1, none⟩ (.slice x.oa x.no x.oc)).cell? ⟨g1, 1, none⟩ = some (.slice x.oa x.no x.oc) ∧ ((zz.setCell ⟨w.heap.size, 0, none⟩ (.slice x.va 4 x.vc)).setCell ⟨w.heap.size, 1, none⟩ (.slice x.oa x.no x.oc)).cell? ⟨g5, 0, none⟩ = some (.slice y2.va 4 y2.vc) ∧ ((zz.setCell ⟨w.heap.size, 0, none⟩ (.slice x.va 4 x.vc)).setCell ⟨w.heap.size, 1, none⟩ (.slice x.oa x.no x.oc)).cell? ⟨g5, 1, none⟩ = some (.slice y2.oa y2.no y2.oc) := ⟨(World.cell?_of_block (a := ⟨g1, _, none⟩) (pair_other _ _ n1)).trans hS.1, (World.cell?_of_block (a := ⟨g1, _, none⟩) (pair_other _ _ n1)).trans hS.2.1, (World.cell?_of_block (a := ⟨g5, _, none⟩) (pair_other _ _ n3)).trans hS.2.2.1, (World.cell?_of_block (a := ⟨g5, _, none⟩) (pair_other _ _ n3)).trans hS.2.2.2⟩
  refine wpAnyH_ready (rs := [2]) (by kernel_rfl) (by simp) ?_
  refine AllReadyH.cons (o := { dst := none, op := Op.store 27 (Operand.tmp 2) (Operand.tmp 25), type := 0, pos := "l04_carts.go:201", after := #[{ on := 0, ground := Ground.data }, { on := 0, ground := Ground.phase }, { on := 1, ground := Ground.textOnly Departure.lateStores }], guard := none }) rfl (fun K hK => ?_) AllReadyH.nil
  go_simp
  refine hK.out _ _ hSa (fun hHeld3 => ?_)
  clear hK K
  (try simp only [Act.put, List.setIfInBounds_toArray, List.set_cons_zero, List.set_cons_succ])
  clear r0 r1 f0 f1
  have hrb : ((zz.setCell ⟨w.heap.size, 0, none⟩ (.slice x.va 4 x.vc)).setCell ⟨w.heap.size, 1, none⟩ (.slice x.oa x.no x.oc)).heap[w.heap.size + 1]? = _ := (pair_other _ _ (by omega)).trans HDz.out.rb
  obtain ⟨r0, r1⟩ := pair_cells hrb
  obtain ⟨f0, f1⟩ := pair_frozen hrb
  clear hrb
  have hSb : ((((zz.setCell ⟨w.heap.size, 0, none⟩ (.slice x.va 4 x.vc)).setCell ⟨w.heap.size, 1, none⟩ (.slice x.oa x.no x.oc)).setCell ⟨w.heap.size + 1, 0, none⟩ (.slice y2.va 4 y2.vc)).setCell ⟨w.heap.size + 1, 1, none⟩ (.slice y2.oa y2.no y2.oc)).cell? ⟨g1, 0, none⟩ = some (.slice x.va 4 x.vc) ∧ ((((zz.setCell ⟨w.heap.size, 0, none⟩ (.slice x.va 4 x.vc)).setCell ⟨w.heap.size, 1, none⟩ (.slice x.oa x.no x.oc)).setCell ⟨w.heap.size + 1, 0, none⟩ (.slice y2.va 4 y2.vc)).setCell ⟨w.heap.size + 1, 1, none⟩ (.slice y2.oa y2.no y2.oc)).cell? ⟨g1, 1, none⟩ = some (.slice x.oa x.no x.oc) ∧ ((((zz.setCell ⟨w.heap.size, 0, none⟩ (.slice x.va 4 x.vc)).setCell ⟨w.heap.size, 1, none⟩ (.slice x.oa x.no x.oc)).setCell ⟨w.heap.size + 1, 0, none⟩ (.slice y2.va 4 y2.vc)).setCell ⟨w.heap.size + 1, 1, none⟩ (.slice y2.oa y2.no y2.oc)).cell? ⟨g5, 0, none⟩ = some (.slice y2.va 4 y2.vc) ∧ ((((zz.setCell ⟨w.heap.size, 0, none⟩ (.slice x.va 4 x.vc)).setCell ⟨w.heap.size, 1, none⟩ (.slice x.oa x.no x.oc)).setCell ⟨w.heap.size + 1, 0, none⟩ (.slice y2.va 4 y2.vc)).setCell ⟨w.heap.size + 1, 1, none⟩ (.slice y2.oa y2.no y2.oc)).cell? ⟨g5, 1, none⟩ = some (.slice y2.oa y2.no y2.oc) := ⟨(World.cell?_of_block (a := ⟨g1, _, none⟩) ((pair_other _ _ n2).trans (pair_other _ _ n1))).trans hS.1, (World.cell?_of_block (a := ⟨g1, _, none⟩) ((pair_other _ _ n2).trans (pair_other _ _ n1))).trans hS.2.1, (World.cell?_of_block (a := ⟨g5, _, none⟩) ((pair_other _ _ n4).trans (pair_other _ _ n3))).trans hS.2.2.1, (World.cell?_of_block (a := ⟨g5, _, none⟩) ((pair_other _ _ n4).trans (pair_other _ _ n3))).trans hS.2.2.2⟩
  refine wpAnyH_ready (rs := [3]) (by kernel_rfl) (by simp) ?_
  refine AllReadyH.cons (o := { dst := none, op := Op.store 27 (Operand.tmp 3) (Operand.tmp 26), type := 0, pos := "l04_carts.go:201", after := #[{ on := 1, ground := Ground.data }, { on := 2, ground := Ground.chain }, { on := 0, ground := Ground.phase }, { on := 1, ground := Ground.phase }, { on := 2, ground := Ground.phase }], guard := none }) rfl (fun K hK => ?_) AllReadyH.nil
  go_simp
  refine hK.out _ _ hSb (fun hHeld4 => ?_)
  clear hK K
  (try simp only [Act.put, List.setIfInBounds_toArray, List.set_cons_zero, List.set_cons_succ])
  refine wpAnyH_done (by kernel_rfl) ?_ _
  clear r0 r1 f0 f1 hSa hSb hS
  generalize (((zz.setCell ⟨w.heap.size, 0, none⟩ (.slice x.va 4 x.vc)).setCell ⟨w.heap.size, 1, none⟩ (.slice x.oa x.no x.oc)).setCell ⟨w.heap.size + 1, 0, none⟩ (.slice y2.va 4 y2.vc)).setCell ⟨w.heap.size + 1, 1, none⟩ (.slice y2.oa y2.no y2.oc) = wf at HFa HFb HF ⊢
  obtain ⟨p0, p1⟩ := pair_cells HFa.out
  obtain ⟨p2, p3⟩ := pair_cells HFb.out
  go_wp2
  exact bodyPost_ret (v := .tuple #[.agg #[.slice x.va 4 x.vc, .slice x.oa x.no x.oc], .agg #[.slice y2.va 4 y2.vc, .slice y2.oa y2.no y2.oc]]) (by simp [results, Try.results23, go_sem, p0, p1, p2, p3]) rfl HF.out
end Go.Proofs.Ythfkoplljinmmaa
