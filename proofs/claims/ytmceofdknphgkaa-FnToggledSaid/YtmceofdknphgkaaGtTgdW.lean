/- The walk of spec.DrawToggled. -/
import Derived.Test.YtmceofdknphgkaaGa33
import Derived.Deep.Cut
import Derived.Test.YtmceofdknphgkaaGtS
namespace Go.Proofs.Ytmceofdknphgkaa
open Go.RowKit
set_option linter.unusedVariables false
set_option linter.unusedSimpArgs false

/-- What spec.DrawToggled keeps: its two carts in blocks cb and db, beside a reader. -/
structure TgI (w wr : World) (B g : Nat) (a : Option Addr) (len cap lo cb db : Nat) (x y : CartC) : Prop where
  d : D2 w wr B g a len cap #[.slice none 0 0, .slice none 0 0] #[.slice none 0 0, .slice none 0 0]
  bx : wr.heap[cb]? = some (.cells #[.slice x.va 4 x.vc, .slice x.oa x.no x.oc] 27 (0, 0))
  bz : wr.heap[db]? = some (.cells #[.slice y.va 4 y.vc, .slice y.oa y.no y.oc] 27 (0, 0))
  cx : CrtC wr lo wr.heap.size x
  cy : CrtC wr lo wr.heap.size y
  glo : g < lo
  clo : lo ≤ cb
  cdb : cb < db
theorem TgI.step {w wr w1 : World} {B g : Nat} {a : Option Addr} {len cap lo cb db : Nat} {x y : CartC} (h : TgI w wr B g a len cap lo cb db x y) (hg : wr.grownBy w1 (some g)) (hr : Rd w1 B g a len cap) : TgI w w1 B g a len cap lo cb db x y := by
  have h1 := h.glo
  have h2 := h.clo
  have h3 := h.cdb
  have hs := hg.size
  have hk : ∀ j, j < wr.heap.size → j ≠ g → w1.heap[j]? = wr.heap[j]? := fun j h1 h2 => hg.block j h1 (by intro e; injection e with e; exact h2 e)
  exact ⟨h.d.step hg hr, (hk _ (lt_of_row h.bx) (by omega)).trans h.bx, (hk _ (lt_of_row h.bz) (by omega)).trans h.bz, (Crt.kept h.cx fun j a1 a2 => hk j a2 (by omega)).more (Nat.le_refl _) hs (Nat.le_refl _), (Crt.kept h.cy fun j a1 a2 => hk j a2 (by omega)).more (Nat.le_refl _) hs (Nat.le_refl _), h1, h2, h3⟩
theorem TgI.below {w wr w1 : World} {B g : Nat} {a : Option Addr} {len cap lo cb db : Nat} {x y : CartC} (h : TgI w wr B g a len cap lo cb db x y) (hb : Below wr.heap.size wr w1) : TgI w w1 B g a len cap lo cb db x y :=
  h.step (grown_of hb) (h.d.rd.grown (grown_no hb) fun k hk => by cases hk)
/-- Another cart is laid in the second block. -/
theorem TgI.turn {w z : World} {B g : Nat} {a : Option Addr} {len cap lo cb db : Nat} {x y : CartC} (h : TgI w z B g a len cap lo cb db x y) (v : CartC) (hv : CrtC z lo z.heap.size v) : TgI w ((z.setCell ⟨db, 0, none⟩ (.slice v.va 4 v.vc)).setCell ⟨db, 1, none⟩ (.slice v.oa v.no v.oc)) B g a len cap lo cb db x v := by
  have h1 := h.glo
  have h2 := h.clo
  have h3 := h.cdb
  have hgl := h.d.glt
  have hB := h.d.rd.own
  have hz := pair_size z db (.slice v.va 4 v.vc) (.slice v.oa v.no v.oc)
  have hk : ∀ j, j ≠ db → ((z.setCell ⟨db, 0, none⟩ (.slice v.va 4 v.vc)).setCell ⟨db, 1, none⟩ (.slice v.oa v.no v.oc)).heap[j]? = z.heap[j]? := fun j hj => pair_other _ _ hj
  refine ⟨⟨(hk _ (by omega)).trans h.d.ra, (hk _ (by omega)).trans h.d.rb, h.d.bel.trans ((below_set2 z db 0 1 _ _).mono (by omega)), h.d.rd.kept fun k hk' => hk k (by omega), hgl⟩, (hk _ (by omega)).trans h.bx, pair_set _ _ h.bz, ?_, ?_, h1, h2, h3⟩
  · rw [hz]
    exact Crt.other h.cx h.bz fun j _ _ hne => hk j hne
  · rw [hz]
    exact Crt.other hv h.bz fun j _ _ hne => hk j hne
/-- Eight cells of a block of an operation are written. -/
theorem TgI.op {w z : World} {B g eb : Nat} {a : Option Addr} {len cap lo cb db : Nat} {x y : CartC} {cs : Array Value} (h : TgI w z B g a len cap lo cb db x y) (v0 v1 v2 v3 v4 v5 v6 v7 : Value) (he : z.heap[eb]? = some (.cells cs 34 (0, 0))) (hlo : lo ≤ eb) (hkx : CrtC (setOp z eb v0 v1 v2 v3 v4 v5 v6 v7) lo z.heap.size x) (hky : CrtC (setOp z eb v0 v1 v2 v3 v4 v5 v6 v7) lo z.heap.size y) : TgI w (setOp z eb v0 v1 v2 v3 v4 v5 v6 v7) B g a len cap lo cb db x y := by
  have h1 := h.glo
  have h2 := h.clo
  have h3 := h.cdb
  have hgl := h.d.glt
  have hB := h.d.rd.own
  have hz : (setOp z eb v0 v1 v2 v3 v4 v5 v6 v7).heap.size = z.heap.size := by unfold setOp; simp [World.setCell]
  have hk : ∀ j, j ≠ eb → (setOp z eb v0 v1 v2 v3 v4 v5 v6 v7).heap[j]? = z.heap[j]? := fun j hj => setOp_other _ _ _ _ _ _ _ _ hj
  have hne : ∀ q u v, z.heap[q]? = some (.cells #[u, v] 27 (0, 0)) → q ≠ eb := fun q u v hq e => by
    rw [e, he] at hq
    injection hq with hq
    injection hq with _ hq
    exact absurd hq (by decide)
  refine ⟨⟨(hk _ (by omega)).trans h.d.ra, (hk _ (by omega)).trans h.d.rb, setOp_below _ _ _ _ _ _ _ _ h.d.bel (by omega), h.d.rd.kept fun k hk' => hk k (by omega), hgl⟩, (hk _ (hne _ _ _ h.bx)).trans h.bx, (hk _ (hne _ _ _ h.bz)).trans h.bz, ?_, ?_, h1, h2, h3⟩
  · rw [hz]; exact hkx
  · rw [hz]; exact hky

set_option maxRecDepth 100000 in
set_option maxHeartbeats 16000000 in
theorem drawToggled (w : World) (B : Nat) (a : Option Addr) (len cap : Nat) (hB : B ≤ w.heap.size) (h : Src w B a len) :
    Calls Try.prog 22 #[.slice a len cap] w (DrawsTwo w) := by
  have hT := Two.mk0 w #[.slice none 0 0, .slice none 0 0] #[.slice none 0 0, .slice none 0 0] 27
  have hTs : Hid (((w.alloc (.cells #[.slice none 0 0, .slice none 0 0] 27)).alloc (.cells #[.slice none 0 0, .slice none 0 0] 27)).heap.size = w.heap.size + 2) := by show _ = _; simp
  have HS0 := Lib.hid (h.kept (w' := (w.alloc (.cells #[.slice none 0 0, .slice none 0 0] 27)).alloc (.cells #[.slice none 0 0, .slice none 0 0] 27)) fun k hk => hT.bel.block k (by omega))
  have HT := Lib.hid hT
  clear h hT
  go_enter Try.func22, Try.ntmps22
  go_wp2_with fail
  generalize (w.alloc (.cells #[.slice none 0 0, .slice none 0 0] 27)).alloc (.cells #[.slice none 0 0, .slice none 0 0] 27) = w0 at HS0 HT hTs ⊢
  refine (l1Open w0 B a len cap (by have := hTs.out; omega) HS0.out).mono ?_
  rintro e w1 ⟨rfl, hg1, hr1⟩
  have HD1 : Hid (D2 w w1 B w0.heap.size a len cap #[.slice none 0 0, .slice none 0 0] #[.slice none 0 0, .slice none 0 0]) := ⟨(hg1.block _ (by have := hTs.out; omega) (by intro e; cases e)).trans HT.out.fst, (hg1.block _ (by have := hTs.out; omega) (by intro e; cases e)).trans HT.out.snd, HT.out.bel.grown hg1 (by have := hTs.out; omega) (fun k hk => by cases hk), hr1, by have := hTs.out; omega⟩
  clear hg1 hr1 HS0 HT hTs
  generalize w0.heap.size = g at HD1 ⊢
  go_wp2_with fail
  refine (rdCartsI w1 B g a len cap HD1.out.rd 3 24 (by omega) (by omega) (by omega) 3 24 rfl rfl).mono ?_
  rintro e w2 ⟨q, c, l, rfl, hl2⟩
  have hgw1 := HD1.out.rd.lt
  have hs2 := hl2.grown.size
  have c0 : w2.cell? ⟨q, 0, none⟩ = some (.slice (cAt l 0).va 4 (cAt l 0).vc) := (hl2.cell 0 (by omega)).1
  have c1 : w2.cell? ⟨q, 1, none⟩ = some (.slice (cAt l 0).oa (cAt l 0).no (cAt l 0).oc) := (hl2.cell 0 (by omega)).2
  have HX := Lib.hid (hl2.row.crt 0 (by rw [hl2.num]; omega))
  have HD2 := Lib.hid (HD1.out.step hl2.grown hl2.rd)
  clear hl2 HD1
  generalize cAt l 0 = x at c0 c1 HX
  go_upto_region 3 with fail
  have hal : Below w2.heap.size w2 (w2.alloc (.cells #[.slice x.va 4 x.vc, .slice x.oa x.no x.oc] 27)) := (Below.refl _ _).alloc (Nat.le_refl _) _
  have HC3 := Lib.hid (boxAt (Below.refl _ (w2.alloc (.cells #[.slice x.va 4 x.vc, .slice x.oa x.no x.oc] 27))))
  have HD3 := Lib.hid (HD2.out.step (grown_of hal) (HD2.out.rd.grown (grown_no hal) fun k hk => by cases hk))
  have HX3 := Lib.hid (Crt.more (Crt.kept HX.out (w' := w2.alloc (.cells #[.slice x.va 4 x.vc, .slice x.oa x.no x.oc] 27)) fun j _ h2 => hal.block j h2) (Nat.le_refl _) hal.size (Nat.le_refl _))
  have hs3 := hal.size
  clear hal HD2 HX c0 c1
  generalize w2.alloc (.cells #[.slice x.va 4 x.vc, .slice x.oa x.no x.oc] 27) = w3 at HC3 HD3 HX3 hs3 ⊢
  have hcl := lt_of_row HC3.out
  have hlo := hs2
  generalize w2.heap.size = cb at HC3 HX3 hs3 hcl hlo hs2 ⊢
  generalize w1.heap.size = lo at hgw1 HX3 hlo hs2 ⊢
  obtain ⟨q0, q1⟩ := pair_cells HC3.out
  by_cases hx0 : x.no = 0
  · have hxe : ((x.no : Int) == 0) = true := by rw [hx0]; rfl
    have hxd : ((x.no : Int) = 0) := by rw [hx0]; rfl
    rw [hx0] at q1
    clear hx0 hxe hxd
    go_wp2_with fail
    refine (drawMerged w3 B a len cap (by have := HD3.out.rd.own; have := HD3.out.rd.lt; omega) HD3.out.rd.src).mono ?_
    rintro e wm ⟨x2, y2, rfl, hx2, hy2, hb2⟩
    have hDm : D3 w wm #[.slice none 0 0, .slice none 0 0] #[.slice none 0 0, .slice none 0 0] := ⟨(hb2.block _ (lt_of_row HD3.out.ra)).trans HD3.out.ra, (hb2.block _ (lt_of_row HD3.out.rb)).trans HD3.out.rb, HD3.out.bel.trans (hb2.mono HD3.out.bel.size)⟩
    have hws := HD3.out.bel.size
    obtain ⟨HE0, HE1, HE2⟩ := hDm.out (hx2.more (by omega) (Nat.le_refl _)) (hy2.more (by omega) (Nat.le_refl _))
    obtain ⟨r0, r1⟩ := pair_cells hDm.ra
    obtain ⟨f0, f1⟩ := pair_frozen hDm.ra
    obtain ⟨r2, r3⟩ := pair_cells hDm.rb
    obtain ⟨f2, f3⟩ := pair_frozen hDm.rb
    clear hx2 hy2 hb2 hDm hws
    go_wp2
    change bodyPost _ _ _ _ _ ((((wm.setCell ⟨w.heap.size, 0, none⟩ (.slice x2.va 4 x2.vc)).setCell ⟨w.heap.size, 1, none⟩ (.slice x2.oa x2.no x2.oc)).setCell ⟨w.heap.size + 1, 0, none⟩ (.slice y2.va 4 y2.vc)).setCell ⟨w.heap.size + 1, 1, none⟩ (.slice y2.oa y2.no y2.oc))
    generalize (((wm.setCell ⟨w.heap.size, 0, none⟩ (.slice x2.va 4 x2.vc)).setCell ⟨w.heap.size, 1, none⟩ (.slice x2.oa x2.no x2.oc)).setCell ⟨w.heap.size + 1, 0, none⟩ (.slice y2.va 4 y2.vc)).setCell ⟨w.heap.size + 1, 1, none⟩ (.slice y2.oa y2.no y2.oc) = wf at HE0 HE1 HE2 ⊢
    obtain ⟨p0, p1⟩ := pair_cells HE0.out
    obtain ⟨p2, p3⟩ := pair_cells HE1.out
    exact bodyPost_ret (v := .tuple #[.agg #[.slice x2.va 4 x2.vc, .slice x2.oa x2.no x2.oc], .agg #[.slice y2.va 4 y2.vc, .slice y2.oa y2.no y2.oc]]) (by simp [results, Try.results22, go_sem, p0, p1, p2, p3]) rfl HE2.out
  have hxe : ((x.no : Int) == 0) = false := by simpa using hx0
  have hxd : ¬ ((x.no : Int) = 0) := by omega
  go_wp2_with fail
  refine (once w3 B g a len cap HD3.out.rd 8 (by omega) (by omega)).mono ?_
  rintro e w4 ⟨o1, rfl, hg4, hr4⟩
  clear q0 q1
  have HD4 := Lib.hid (HD3.out.step hg4 hr4)
  have HC4 := Lib.hid ((hg4.block cb hcl (by intro e; injection e with e; omega)).trans HC3.out)
  have HX4 := Lib.hid (Crt.more (Crt.kept HX3.out fun j a1 a2 => hg4.block j (by omega) (by intro e; injection e with e; omega)) (Nat.le_refl _) hg4.size (Nat.le_refl _))
  have hcl4 : cb < w4.heap.size := Nat.lt_of_lt_of_le hcl hg4.size
  have hs34 := hg4.size
  clear hg4 hr4 HD3 HC3 HX3
  cases o1
  rotate_left
  · skip
    go_wp2_with fail
    refine (drawMerged w4 B a len cap (by have := HD4.out.rd.own; have := HD4.out.rd.lt; omega) HD4.out.rd.src).mono ?_
    rintro e wm ⟨x2, y2, rfl, hx2, hy2, hb2⟩
    have hDm : D3 w wm #[.slice none 0 0, .slice none 0 0] #[.slice none 0 0, .slice none 0 0] := ⟨(hb2.block _ (lt_of_row HD4.out.ra)).trans HD4.out.ra, (hb2.block _ (lt_of_row HD4.out.rb)).trans HD4.out.rb, HD4.out.bel.trans (hb2.mono HD4.out.bel.size)⟩
    have hws := HD4.out.bel.size
    obtain ⟨HE0, HE1, HE2⟩ := hDm.out (hx2.more (by omega) (Nat.le_refl _)) (hy2.more (by omega) (Nat.le_refl _))
    obtain ⟨r0, r1⟩ := pair_cells hDm.ra
    obtain ⟨f0, f1⟩ := pair_frozen hDm.ra
    obtain ⟨r2, r3⟩ := pair_cells hDm.rb
    obtain ⟨f2, f3⟩ := pair_frozen hDm.rb
    clear hx2 hy2 hb2 hDm hws
    go_wp2
    change bodyPost _ _ _ _ _ ((((wm.setCell ⟨w.heap.size, 0, none⟩ (.slice x2.va 4 x2.vc)).setCell ⟨w.heap.size, 1, none⟩ (.slice x2.oa x2.no x2.oc)).setCell ⟨w.heap.size + 1, 0, none⟩ (.slice y2.va 4 y2.vc)).setCell ⟨w.heap.size + 1, 1, none⟩ (.slice y2.oa y2.no y2.oc))
    generalize (((wm.setCell ⟨w.heap.size, 0, none⟩ (.slice x2.va 4 x2.vc)).setCell ⟨w.heap.size, 1, none⟩ (.slice x2.oa x2.no x2.oc)).setCell ⟨w.heap.size + 1, 0, none⟩ (.slice y2.va 4 y2.vc)).setCell ⟨w.heap.size + 1, 1, none⟩ (.slice y2.oa y2.no y2.oc) = wf at HE0 HE1 HE2 ⊢
    obtain ⟨p0, p1⟩ := pair_cells HE0.out
    obtain ⟨p2, p3⟩ := pair_cells HE1.out
    exact bodyPost_ret (v := .tuple #[.agg #[.slice x2.va 4 x2.vc, .slice x2.oa x2.no x2.oc], .agg #[.slice y2.va 4 y2.vc, .slice y2.oa y2.no y2.oc]]) (by simp [results, Try.results22, go_sem, p0, p1, p2, p3]) rfl HE2.out
  obtain ⟨q0, q1⟩ := pair_cells HC4.out
  go_upto_region 6 with fail
  have hal : Below w4.heap.size w4 (w4.alloc (.cells #[.slice x.va 4 x.vc, .slice x.oa x.no x.oc] 27)) := (Below.refl _ _).alloc (Nat.le_refl _) _
  have HI5 : Hid (TgI w (w4.alloc (.cells #[.slice x.va 4 x.vc, .slice x.oa x.no x.oc] 27)) B g a len cap lo cb w4.heap.size x x) := ⟨HD4.out.step (grown_of hal) (HD4.out.rd.grown (grown_no hal) fun k hk => by cases hk), (hal.block _ hcl4).trans HC4.out, boxAt (Below.refl _ _), Crt.more (Crt.kept HX4.out fun j _ h2 => hal.block j (by omega)) (Nat.le_refl _) (by have := hal.size; omega) (Nat.le_refl _), Crt.more (Crt.kept HX4.out fun j _ h2 => hal.block j (by omega)) (Nat.le_refl _) (by have := hal.size; omega) (Nat.le_refl _), hgw1, hlo, hcl4⟩
  clear q0 q1 HD4 HC4 HX4 hal
  generalize w4.alloc (.cells #[.slice x.va 4 x.vc, .slice x.oa x.no x.oc] 27) = w5 at HI5 ⊢
  generalize w4.heap.size = db at HI5 hcl4 ⊢
  clear hs34 hcl hs3
  go_wp2_with fail
  refine (belowI w5 B g a len cap HI5.out.d.rd 4 (by omega) (by omega)).mono ?_
  rintro e w6 ⟨n, hn4, rfl, hg6, hr6⟩
  have HI6 := Lib.hid (HI5.out.step hg6 hr6)
  clear hg6 hr6 HI5
  go_wp2
  go_loopw [7] (fun i wr => ∃ (k : Nat) (y : CartC), k < 5 ∧ i = .int .i64 (k : Int) ∧ Hid (TgI w wr B g a len cap lo cb db x y)) (fun i _ => (intOf i).toNat)
  case atStart => exact ⟨n, x, Nat.lt_of_lt_of_le hn4 (by decide), rfl, HI6⟩
  case round =>
    clear HI6
    obtain ⟨k, y, hk5, rfl, HIr⟩ := hrel
    by_cases hk : 0 < k
    rotate_left
    · obtain rfl : k = 0 := by omega
      clear hk
      go_wp2_with fail
      refine (once wr B g a len cap HIr.out.d.rd 2 (by omega) (by omega)).mono ?_
      rintro e w7 ⟨o2, rfl, hg7, hr7⟩
      have HI7 := Lib.hid (HIr.out.step hg7 hr7)
      clear hg7 hr7 HIr
      cases o2
      · skip
        go_upto_region 17 with fail
        obtain ⟨zz, hze⟩ : ∃ z, w7.drew = z := ⟨_, rfl⟩
        have hS : w7.drew.cell? ⟨cb, 0, none⟩ = some (.slice x.va 4 x.vc) ∧ w7.drew.cell? ⟨cb, 1, none⟩ = some (.slice x.oa x.no x.oc) ∧ w7.drew.cell? ⟨db, 0, none⟩ = some (.slice y.va 4 y.vc) ∧ w7.drew.cell? ⟨db, 1, none⟩ = some (.slice y.oa y.no y.oc) := ⟨(pair_cells HI7.out.bx).1, (pair_cells HI7.out.bx).2, (pair_cells HI7.out.bz).1, (pair_cells HI7.out.bz).2⟩
        have gz : Below w7.heap.size w7 zz := by rw [← hze]; exact ⟨rfl, rfl, rfl, Nat.le_refl _, fun _ _ => rfl⟩
        have HIz := Lib.hid (HI7.out.below gz)
        have hgl := HIz.out.d.glt
        have hDz : Hid (D3 w zz #[.slice none 0 0, .slice none 0 0] #[.slice none 0 0, .slice none 0 0]) := ⟨HIz.out.d.ra, HIz.out.d.rb, HIz.out.d.bel⟩
        have HXz := Lib.hid ((CrtC.weak HIz.out.cx).more (lo' := w.heap.size) (hi' := zz.heap.size) (by omega) (Nat.le_refl _))
        have HYz := Lib.hid ((CrtC.weak HIz.out.cy).more (lo' := w.heap.size) (hi' := zz.heap.size) (by omega) (Nat.le_refl _))
        rw [hze] at hS
        refine wp_region_held_drew (S := fun w' => w'.cell? ⟨cb, 0, none⟩ = some (.slice x.va 4 x.vc) ∧ w'.cell? ⟨cb, 1, none⟩ = some (.slice x.oa x.no x.oc) ∧ w'.cell? ⟨db, 0, none⟩ = some (.slice y.va 4 y.vc) ∧ w'.cell? ⟨db, 1, none⟩ = some (.slice y.oa y.no y.oc)) (by kernel_rfl) (by rw [hze]; exact hS) (fun hHeld => ?_)
        rw [hze]
        clear hHeld hze gz
        refine wpAnyH_take (i := 0) (oi := { dst := some 72, op := .load 27 (.tmp 5), type := 27, pos := "l07_deltas.go:141", after := #[], guard := none }) (v := ?_) rfl (by kernel_rfl) (by kernel_rfl) (by kernel_rfl) (fun _ _ _ h => h) (Or.inl ⟨by rfl, ?_⟩) (by assumption) ?_
        rotate_left
        · intro w hSw
          (try dsimp only at hSw)
          first | (go_simp; done) | (go_simp; with_reducible rfl)
        (try simp only [Act.put, List.setIfInBounds_toArray, List.set_cons_zero, List.set_cons_succ])
        refine wpAnyH_take (i := 1) (oi := { dst := some 73, op := .load 27 (.tmp 6), type := 27, pos := "l07_deltas.go:141", after := #[{ on := 2, ground := Ground.gcOnly Departure.lateStores }], guard := none }) (v := ?_) rfl (by kernel_rfl) (by kernel_rfl) (by kernel_rfl) (fun _ _ _ h => h) (Or.inl ⟨by rfl, ?_⟩) (by assumption) ?_
        rotate_left
        · intro w hSw
          (try dsimp only at hSw)
          first | (go_simp; done) | (go_simp; with_reducible rfl)
        (try simp only [Act.put, List.setIfInBounds_toArray, List.set_cons_zero, List.set_cons_succ])
        obtain ⟨HFa, HFb, HF⟩ := hDz.out.out HXz.out HYz.out
        obtain ⟨r0, r1⟩ := pair_cells hDz.out.ra
        obtain ⟨f0, f1⟩ := pair_frozen hDz.out.ra
        have n1 : cb ≠ w.heap.size := by omega
        have n2 : cb ≠ w.heap.size + 1 := by omega
        have n3 : db ≠ w.heap.size := by omega
        have n4 : db ≠ w.heap.size + 1 := by omega
        have hSa : ((zz.setCell ⟨w.heap.size, 0, none⟩ (.slice x.va 4 x.vc)).setCell ⟨w.heap.size, 1, none⟩ (.slice x.oa x.no x.oc)).cell? ⟨cb, 0, none⟩ = some (.slice x.va 4 x.vc) ∧ ((zz.setCell ⟨w.heap.size, 0, none⟩ (.slice x.va 4 x.vc)).setCell ⟨w.heap.size, 1, none⟩ (.slice x.oa x.no x.oc)).cell? ⟨cb, 1, none⟩ = some (.slice x.oa x.no x.oc) ∧ ((zz.setCell ⟨w.heap.size, 0, none⟩ (.slice x.va 4 x.vc)).setCell ⟨w.heap.size, 1, none⟩ (.slice x.oa x.no x.oc)).cell? ⟨db, 0, none⟩ = some (.slice y.va 4 y.vc) ∧ ((zz.setCell ⟨w.heap.size, 0, none⟩ (.slice x.va 4 x.vc)).setCell ⟨w.heap.size, 1, none⟩ (.slice x.oa x.no x.oc)).cell? ⟨db, 1, none⟩ = some (.slice y.oa y.no y.oc) := ⟨(World.cell?_of_block (a := ⟨cb, _, none⟩) (pair_other _ _ n1)).trans hS.1, (World.cell?_of_block (a := ⟨cb, _, none⟩) (pair_other _ _ n1)).trans hS.2.1, (World.cell?_of_block (a := ⟨db, _, none⟩) (pair_other _ _ n3)).trans hS.2.2.1, (World.cell?_of_block (a := ⟨db, _, none⟩) (pair_other _ _ n3)).trans hS.2.2.2⟩
        refine wpAnyH_ready (rs := [2]) (by kernel_rfl) (by simp) ?_
        refine AllReadyH.cons (o := { dst := none, op := .store 27 (.tmp 2) (.tmp 72), type := 0, pos := "l07_deltas.go:141", after := #[⟨0, .data⟩, ⟨0, .phase⟩, ⟨1, .textOnly .lateStores⟩], guard := none }) rfl (fun K hK => ?_) AllReadyH.nil
        go_simp
        refine hK.out _ _ hSa (fun hHeld3 => ?_)
        clear hK K
        (try simp only [Act.put, List.setIfInBounds_toArray, List.set_cons_zero, List.set_cons_succ])
        clear r0 r1 f0 f1
        have hrb : ((zz.setCell ⟨w.heap.size, 0, none⟩ (.slice x.va 4 x.vc)).setCell ⟨w.heap.size, 1, none⟩ (.slice x.oa x.no x.oc)).heap[w.heap.size + 1]? = _ := (pair_other _ _ (by omega)).trans hDz.out.rb
        obtain ⟨r0, r1⟩ := pair_cells hrb
        obtain ⟨f0, f1⟩ := pair_frozen hrb
        clear hrb
        have hSb : ((((zz.setCell ⟨w.heap.size, 0, none⟩ (.slice x.va 4 x.vc)).setCell ⟨w.heap.size, 1, none⟩ (.slice x.oa x.no x.oc)).setCell ⟨w.heap.size + 1, 0, none⟩ (.slice y.va 4 y.vc)).setCell ⟨w.heap.size + 1, 1, none⟩ (.slice y.oa y.no y.oc)).cell? ⟨cb, 0, none⟩ = some (.slice x.va 4 x.vc) ∧ ((((zz.setCell ⟨w.heap.size, 0, none⟩ (.slice x.va 4 x.vc)).setCell ⟨w.heap.size, 1, none⟩ (.slice x.oa x.no x.oc)).setCell ⟨w.heap.size + 1, 0, none⟩ (.slice y.va 4 y.vc)).setCell ⟨w.heap.size + 1, 1, none⟩ (.slice y.oa y.no y.oc)).cell? ⟨cb, 1, none⟩ = some (.slice x.oa x.no x.oc) ∧ ((((zz.setCell ⟨w.heap.size, 0, none⟩ (.slice x.va 4 x.vc)).setCell ⟨w.heap.size, 1, none⟩ (.slice x.oa x.no x.oc)).setCell ⟨w.heap.size + 1, 0, none⟩ (.slice y.va 4 y.vc)).setCell ⟨w.heap.size + 1, 1, none⟩ (.slice y.oa y.no y.oc)).cell? ⟨db, 0, none⟩ = some (.slice y.va 4 y.vc) ∧ ((((zz.setCell ⟨w.heap.size, 0, none⟩ (.slice x.va 4 x.vc)).setCell ⟨w.heap.size, 1, none⟩ (.slice x.oa x.no x.oc)).setCell ⟨w.heap.size + 1, 0, none⟩ (.slice y.va 4 y.vc)).setCell ⟨w.heap.size + 1, 1, none⟩ (.slice y.oa y.no y.oc)).cell? ⟨db, 1, none⟩ = some (.slice y.oa y.no y.oc) := ⟨(World.cell?_of_block (a := ⟨cb, _, none⟩) ((pair_other _ _ n2).trans (pair_other _ _ n1))).trans hS.1, (World.cell?_of_block (a := ⟨cb, _, none⟩) ((pair_other _ _ n2).trans (pair_other _ _ n1))).trans hS.2.1, (World.cell?_of_block (a := ⟨db, _, none⟩) ((pair_other _ _ n4).trans (pair_other _ _ n3))).trans hS.2.2.1, (World.cell?_of_block (a := ⟨db, _, none⟩) ((pair_other _ _ n4).trans (pair_other _ _ n3))).trans hS.2.2.2⟩
        refine wpAnyH_ready (rs := [3]) (by kernel_rfl) (by simp) ?_
        refine AllReadyH.cons (o := { dst := none, op := .store 27 (.tmp 3) (.tmp 73), type := 0, pos := "l07_deltas.go:141", after := #[⟨1, .data⟩, ⟨2, .chain⟩, ⟨0, .phase⟩, ⟨1, .phase⟩, ⟨2, .phase⟩], guard := none }) rfl (fun K hK => ?_) AllReadyH.nil
        go_simp
        refine hK.out _ _ hSb (fun hHeld4 => ?_)
        clear hK K
        (try simp only [Act.put, List.setIfInBounds_toArray, List.set_cons_zero, List.set_cons_succ])
        refine wpAnyH_done (by kernel_rfl) ?_ _
        clear r0 r1 f0 f1 hSa hSb hS
        generalize (((zz.setCell ⟨w.heap.size, 0, none⟩ (.slice x.va 4 x.vc)).setCell ⟨w.heap.size, 1, none⟩ (.slice x.oa x.no x.oc)).setCell ⟨w.heap.size + 1, 0, none⟩ (.slice y.va 4 y.vc)).setCell ⟨w.heap.size + 1, 1, none⟩ (.slice y.oa y.no y.oc) = wf at HFa HFb HF ⊢
        obtain ⟨p0, p1⟩ := pair_cells HFa.out
        obtain ⟨p2, p3⟩ := pair_cells HFb.out
        go_wp2
        exact bodyPost_ret (v := .tuple #[.agg #[.slice x.va 4 x.vc, .slice x.oa x.no x.oc], .agg #[.slice y.va 4 y.vc, .slice y.oa y.no y.oc]]) (by simp [results, Try.results22, go_sem, p0, p1, p2, p3]) rfl HF.out
      go_upto_region 14 with fail
      obtain ⟨z0, hz0⟩ : ∃ z, w7.drew = z := ⟨_, rfl⟩
      have gz : Below w7.heap.size w7 z0 := by rw [← hz0]; exact ⟨rfl, rfl, rfl, Nat.le_refl _, fun _ _ => rfl⟩
      have HJ0 := Lib.hid (HI7.out.below gz)
      clear HI7 gz
      have hS0 : z0.cell? ⟨db, 0, none⟩ = some (.slice y.va 4 y.vc) ∧ z0.cell? ⟨db, 1, none⟩ = some (.slice y.oa y.no y.oc) := pair_cells HJ0.out.bz
      refine wp_region_held_drew (S := fun w' => w'.cell? ⟨db, 0, none⟩ = some (.slice y.va 4 y.vc) ∧ w'.cell? ⟨db, 1, none⟩ = some (.slice y.oa y.no y.oc)) (by kernel_rfl) (by rw [hz0]; exact hS0) (fun hHeld => ?_)
      rw [hz0]
      clear hHeld hz0
      refine wpAnyH_take (i := 0) (oi := { dst := some 63, op := .load 27 (.tmp 6), type := 27, pos := "l07_deltas.go:136", after := #[], guard := none }) (v := ?_) rfl (by kernel_rfl) (by kernel_rfl) (by kernel_rfl) (fun _ _ _ h => h) (Or.inl ⟨by rfl, ?_⟩) (by assumption) ?_
      rotate_left
      · intro w hSw
        (try dsimp only at hSw)
        first | (go_simp; done) | (go_simp; with_reducible rfl)
      (try simp only [Act.put, List.setIfInBounds_toArray, List.set_cons_zero, List.set_cons_succ])
      refine wpAnyH_take (i := 1) (oi := { dst := some 64, op := .move (.tmp 4), type := 94, pos := "l07_deltas.go:136", after := #[], guard := none }) (v := ?_) rfl (by kernel_rfl) (by kernel_rfl) (by kernel_rfl) (fun _ _ _ h => h) (Or.inl ⟨by rfl, ?_⟩) (by assumption) ?_
      rotate_left
      · intro w hSw
        (try dsimp only at hSw)
        first | (go_simp; done) | (go_simp; with_reducible rfl)
      (try simp only [Act.put, List.setIfInBounds_toArray, List.set_cons_zero, List.set_cons_succ])
      refine wpAnyH_ready (rs := [2, 7]) (by kernel_rfl) (by simp) ?_
      refine AllReadyH.cons (o := { dst := some 65, op := .call { callee := .value (.func 92), args := #[.tmp 64], argTypes := #[94] }, type := 102, pos := "l07_deltas.go:136", after := #[⟨1, .data⟩], guard := none }) rfl (fun K hK => ?_) (AllReadyH.cons (o := { dst := some 11, op := .alloc 27, type := 0, pos := "l07_deltas.go:136", after := #[], guard := none }) rfl (fun K hK => ?_) AllReadyH.nil)
      · skip
        go_simp
        go_at_call 92
        refine (rdCmd z0 B g a len cap HJ0.out.d.rd (by have := HJ0.out.d.rd.own; have := HJ0.out.d.rd.lt; omega)).mono ?_
        rintro e y1 ⟨kind, item, qty, dv, sq, hit, rfl, hg, hr⟩
        have HJ1 := Lib.hid (HJ0.out.step hg hr)
        have hSn : y1.cell? ⟨db, 0, none⟩ = some (.slice y.va 4 y.vc) ∧ y1.cell? ⟨db, 1, none⟩ = some (.slice y.oa y.no y.oc) := pair_cells HJ1.out.bz
        clear hg hr
        refine hK.out _ _ hSn (fun hHeld1 => ?_)
        clear hK K
        (try simp only [Act.put, List.setIfInBounds_toArray, List.set_cons_zero, List.set_cons_succ])
        refine wpAnyH_ready (rs := [3, 7]) (by kernel_rfl) (by simp) ?_
        refine AllReadyH.cons (o := { dst := some 66, op := .call { callee := .value (.func 91), args := #[.tmp 63, .const (Value.int IntKind.i64 0), .tmp 65], argTypes := #[27, 2, 102] }, type := 49, pos := "l07_deltas.go:136", after := #[⟨0, .data⟩, ⟨2, .data⟩, ⟨2, .chain⟩], guard := none }) rfl (fun K hK => ?_) (AllReadyH.cons (o := { dst := some 11, op := .alloc 27, type := 0, pos := "l07_deltas.go:136", after := #[], guard := none }) rfl (fun K hK => ?_) AllReadyH.nil)
        · skip
          go_simp
          go_at_call 91
          refine (issueCrt y1 lo y1.heap.size y 0 kind qty dv sq item HJ1.out.cy (Nat.le_refl _) hit).mono ?_
          rintro e y2 ⟨va, nv, vc, oa, no, oc, code, rfl, hb, hcr⟩
          have HJ2 := Lib.hid (HJ1.out.below hb)
          have hll := HJ1.out.d.rd.lt
          have hgg := HJ1.out.glo
          have hlb := HJ1.out.clo
          have hlc := HJ1.out.cdb
          have hld := lt_of_row HJ1.out.bz
          have HCr := Lib.hid hcr
          have hSn : y2.cell? ⟨db, 0, none⟩ = some (.slice y.va 4 y.vc) ∧ y2.cell? ⟨db, 1, none⟩ = some (.slice y.oa y.no y.oc) := pair_cells HJ2.out.bz
          have hzi : lo ≤ y1.heap.size := by omega
          have hzs := hb.size
          have HCs : Hid (code = 0 → nv = 4 ∧ Crt y2 lo y2.heap.size va vc oa no oc 400) := fun h => ⟨(HCr.out h).1, (HCr.out h).2.more hzi (Nat.le_refl _) (by omega)⟩
          clear hb hcr HCr hzi hzs hll hgg hlb hlc hld
          refine hK.out _ _ hSn (fun hHeld2 => ?_)
          clear hK K
          (try simp only [Act.put, List.setIfInBounds_toArray, List.set_cons_zero, List.set_cons_succ])
          refine wpAnyH_take (i := 4) (oi := { dst := some 62, op := .move (.tmp 66), type := 49, pos := "l07_deltas.go:136", after := #[⟨3, .data⟩], guard := none }) (v := ?_) rfl (by kernel_rfl) (by kernel_rfl) (by kernel_rfl) (fun _ _ _ h => h) (Or.inl ⟨by rfl, ?_⟩) (by assumption) ?_
          rotate_left
          · intro w hSw
            (try dsimp only at hSw)
            first | (go_simp; done) | (go_simp; with_reducible rfl)
          (try simp only [Act.put, List.setIfInBounds_toArray, List.set_cons_zero, List.set_cons_succ])
          refine wpAnyH_take (i := 5) (oi := { dst := some 67, op := .extract (.tmp 62) 0, type := 27, pos := "l07_deltas.go:136", after := #[⟨4, .data⟩], guard := none }) (v := ?_) rfl (by kernel_rfl) (by kernel_rfl) (by kernel_rfl) (fun _ _ _ h => h) (Or.inl ⟨by rfl, ?_⟩) (by assumption) ?_
          rotate_left
          · intro w hSw
            (try dsimp only at hSw)
            first | (go_simp; done) | (go_simp; with_reducible rfl)
          (try simp only [Act.put, List.setIfInBounds_toArray, List.set_cons_zero, List.set_cons_succ])
          refine wpAnyH_take (i := 6) (oi := { dst := some 68, op := .extract (.tmp 62) 1, type := 2, pos := "l07_deltas.go:136", after := #[⟨4, .data⟩, { on := 8, ground := Ground.gcOnly Departure.lateStores }], guard := none }) (v := ?_) rfl (by kernel_rfl) (by kernel_rfl) (by kernel_rfl) (fun _ _ _ h => h) (Or.inl ⟨by rfl, ?_⟩) (by assumption) ?_
          rotate_left
          · intro w hSw
            (try dsimp only at hSw)
            first | (go_simp; done) | (go_simp; with_reducible rfl)
          (try simp only [Act.put, List.setIfInBounds_toArray, List.set_cons_zero, List.set_cons_succ])
          refine wpAnyH_ready (rs := [7]) (by kernel_rfl) (by simp) ?_
          refine AllReadyH.cons (o := { dst := some 11, op := .alloc 27, type := 0, pos := "l07_deltas.go:136", after := #[], guard := none }) rfl (fun K hK => ?_) AllReadyH.nil
          have hal : Below y2.heap.size y2 (y2.alloc (.cells #[.slice none 0 0, .slice none 0 0] 27)) := (Below.refl _ _).alloc (Nat.le_refl _) _
          have HJ3 := Lib.hid (HJ2.out.below hal)
          have HE3 := Lib.hid (boxAt (Below.refl _ (y2.alloc (.cells #[.slice none 0 0, .slice none 0 0] 27))))
          have hlz := HJ2.out.d.rd.lt
          have hlb : db < y2.heap.size := lt_of_row HJ2.out.bz
          have HCt : Hid (code = 0 → nv = 4 ∧ Crt (y2.alloc (.cells #[.slice none 0 0, .slice none 0 0] 27)) lo (y2.alloc (.cells #[.slice none 0 0, .slice none 0 0] 27)).heap.size va vc oa no oc 400) := fun h => ⟨(HCs.out h).1, Crt.more (Crt.kept (HCs.out h).2 fun j _ h2 => hal.block j h2) (Nat.le_refl _) hal.size (Nat.le_refl _)⟩
          clear HCs
          have hSn : (y2.alloc (.cells #[.slice none 0 0, .slice none 0 0] 27)).cell? ⟨db, 0, none⟩ = some (.slice y.va 4 y.vc) ∧ (y2.alloc (.cells #[.slice none 0 0, .slice none 0 0] 27)).cell? ⟨db, 1, none⟩ = some (.slice y.oa y.no y.oc) := pair_cells HJ3.out.bz
          go_simp
          refine hK.out _ _ hSn (fun hHeld3 => ?_)
          clear hK K hal
          (try simp only [Act.put, List.setIfInBounds_toArray, List.set_cons_zero, List.set_cons_succ])
          generalize y2.alloc (.cells #[.slice none 0 0, .slice none 0 0] 27) = y3 at hHeld3 HJ3 HE3 HCt ⊢
          have hel : y2.heap.size < y3.heap.size := lt_of_row HE3.out
          generalize y2.heap.size = eb at HE3 hlz hlb hel ⊢
          have HCs := HCt
          clear HCt
          have hlz2 : cb < db := HJ3.out.cdb
          have hdl : db < eb := by omega
          obtain ⟨r0, r1⟩ := pair_cells HE3.out
          obtain ⟨f0, f1⟩ := pair_frozen HE3.out
          have hko : ∀ j, j ≠ eb → ((y3.setCell ⟨eb, 0, none⟩ (.slice va nv vc)).setCell ⟨eb, 1, none⟩ (.slice oa no oc)).heap[j]? = y3.heap[j]? := fun j hj => pair_other _ _ hj
          have hzz := pair_size y3 eb (.slice va nv vc) (.slice oa no oc)
          have HB2 : Hid (TgI w ((y3.setCell ⟨eb, 0, none⟩ (.slice va nv vc)).setCell ⟨eb, 1, none⟩ (.slice oa no oc)) B g a len cap lo cb db x y) := by
            have h := HJ3.out
            have h1 := h.glo
            have h2 := h.clo
            have hgl := h.d.glt
            have hB := h.d.rd.own
            refine ⟨⟨(hko _ (by omega)).trans h.d.ra, (hko _ (by omega)).trans h.d.rb, h.d.bel.trans ((below_set2 y3 eb 0 1 _ _).mono (by omega)), h.d.rd.kept fun k hk' => hko k (by omega), hgl⟩, (hko _ (by omega)).trans h.bx, (hko _ (by omega)).trans h.bz, ?_, ?_, h1, h2, h.cdb⟩
            · rw [hzz]
              exact Crt.other h.cx HE3.out fun j _ _ hne => hko j hne
            · rw [hzz]
              exact Crt.other h.cy HE3.out fun j _ _ hne => hko j hne
          have HC2 : Hid (code = 0 → nv = 4 ∧ Crt ((y3.setCell ⟨eb, 0, none⟩ (.slice va nv vc)).setCell ⟨eb, 1, none⟩ (.slice oa no oc)) lo ((y3.setCell ⟨eb, 0, none⟩ (.slice va nv vc)).setCell ⟨eb, 1, none⟩ (.slice oa no oc)).heap.size va vc oa no oc 400) := fun h => ⟨(HCs.out h).1, by rw [hzz]; exact Crt.other (HCs.out h).2 HE3.out fun j _ _ hne => hko j hne⟩
          have HE2 : Hid (((y3.setCell ⟨eb, 0, none⟩ (.slice va nv vc)).setCell ⟨eb, 1, none⟩ (.slice oa no oc)).heap[eb]? = some (.cells #[.slice va nv vc, .slice oa no oc] 27 (0, 0))) := pair_set _ _ HE3.out
          clear hko hzz HCs
          have hSn : ((y3.setCell ⟨eb, 0, none⟩ (.slice va nv vc)).setCell ⟨eb, 1, none⟩ (.slice oa no oc)).cell? ⟨db, 0, none⟩ = some (.slice y.va 4 y.vc) ∧ ((y3.setCell ⟨eb, 0, none⟩ (.slice va nv vc)).setCell ⟨eb, 1, none⟩ (.slice oa no oc)).cell? ⟨db, 1, none⟩ = some (.slice y.oa y.no y.oc) := pair_cells HB2.out.bz
          refine wpAnyH_ready (rs := [8]) (by kernel_rfl) (by simp) ?_
          refine AllReadyH.cons (o := { dst := none, op := .store 27 (.tmp 11) (.tmp 67), type := 0, pos := "l07_deltas.go:136", after := #[⟨7, .data⟩, ⟨5, .data⟩, ⟨3, .chain⟩, ⟨0, .phase⟩, ⟨1, .phase⟩, ⟨2, .phase⟩, ⟨3, .phase⟩, ⟨4, .phase⟩, ⟨5, .phase⟩, ⟨6, .textOnly .lateStores⟩, ⟨7, .phase⟩], guard := none }) rfl (fun K hK => ?_) AllReadyH.nil
          go_simp
          refine hK.out _ _ hSn (fun hHeld4 => ?_)
          clear hK K
          (try simp only [Act.put, List.setIfInBounds_toArray, List.set_cons_zero, List.set_cons_succ])
          refine wpAnyH_take (i := 9) (oi := { dst := some 12, op := .assign (.tmp 68), type := 2, pos := "l07_deltas.go:136", after := #[⟨6, .data⟩, ⟨8, .chain⟩, ⟨0, .phase⟩, ⟨1, .phase⟩, ⟨2, .phase⟩, ⟨3, .phase⟩, ⟨4, .phase⟩, ⟨5, .phase⟩, ⟨6, .phase⟩, ⟨7, .phase⟩, ⟨8, .phase⟩], guard := none }) (v := ?_) rfl (by kernel_rfl) (by kernel_rfl) (by kernel_rfl) (fun _ _ _ h => h) (Or.inl ⟨by rfl, ?_⟩) (by assumption) ?_
          rotate_left
          · intro w hSw
            (try dsimp only at hSw)
            first | (go_simp; done) | (go_simp; with_reducible rfl)
          (try simp only [Act.put, List.setIfInBounds_toArray, List.set_cons_zero, List.set_cons_succ])
          refine wpAnyH_done (by kernel_rfl) ?_ _
          clear hSn r0 r1 f0 f1 HE3
          generalize (y3.setCell ⟨eb, 0, none⟩ (.slice va nv vc)).setCell ⟨eb, 1, none⟩ (.slice oa no oc) = w8 at HB2 HC2 HE2 ⊢
          by_cases hcode : code = 0
          rotate_left
          · have hci : ((code == 0) = false) := by simpa using hcode
            have hcd : ¬ (code = 0) := hcode
            clear HC2 HE2
            go_upto_region 17 with fail
            obtain ⟨zz, hze⟩ : ∃ z, w8.drew = z := ⟨_, rfl⟩
            have hS : w8.drew.cell? ⟨cb, 0, none⟩ = some (.slice x.va 4 x.vc) ∧ w8.drew.cell? ⟨cb, 1, none⟩ = some (.slice x.oa x.no x.oc) ∧ w8.drew.cell? ⟨db, 0, none⟩ = some (.slice y.va 4 y.vc) ∧ w8.drew.cell? ⟨db, 1, none⟩ = some (.slice y.oa y.no y.oc) := ⟨(pair_cells HB2.out.bx).1, (pair_cells HB2.out.bx).2, (pair_cells HB2.out.bz).1, (pair_cells HB2.out.bz).2⟩
            have gz : Below w8.heap.size w8 zz := by rw [← hze]; exact ⟨rfl, rfl, rfl, Nat.le_refl _, fun _ _ => rfl⟩
            have HIz := Lib.hid (HB2.out.below gz)
            have hgl := HIz.out.d.glt
            have hDz : Hid (D3 w zz #[.slice none 0 0, .slice none 0 0] #[.slice none 0 0, .slice none 0 0]) := ⟨HIz.out.d.ra, HIz.out.d.rb, HIz.out.d.bel⟩
            have HXz := Lib.hid ((CrtC.weak HIz.out.cx).more (lo' := w.heap.size) (hi' := zz.heap.size) (by omega) (Nat.le_refl _))
            have HYz := Lib.hid ((CrtC.weak HIz.out.cy).more (lo' := w.heap.size) (hi' := zz.heap.size) (by omega) (Nat.le_refl _))
            rw [hze] at hS
            refine wp_region_held_drew (S := fun w' => w'.cell? ⟨cb, 0, none⟩ = some (.slice x.va 4 x.vc) ∧ w'.cell? ⟨cb, 1, none⟩ = some (.slice x.oa x.no x.oc) ∧ w'.cell? ⟨db, 0, none⟩ = some (.slice y.va 4 y.vc) ∧ w'.cell? ⟨db, 1, none⟩ = some (.slice y.oa y.no y.oc)) (by kernel_rfl) (by rw [hze]; exact hS) (fun hHeld => ?_)
            rw [hze]
            clear hHeld hze gz
            refine wpAnyH_take (i := 0) (oi := { dst := some 72, op := .load 27 (.tmp 5), type := 27, pos := "l07_deltas.go:141", after := #[], guard := none }) (v := ?_) rfl (by kernel_rfl) (by kernel_rfl) (by kernel_rfl) (fun _ _ _ h => h) (Or.inl ⟨by rfl, ?_⟩) (by assumption) ?_
            rotate_left
            · intro w hSw
              (try dsimp only at hSw)
              first | (go_simp; done) | (go_simp; with_reducible rfl)
            (try simp only [Act.put, List.setIfInBounds_toArray, List.set_cons_zero, List.set_cons_succ])
            refine wpAnyH_take (i := 1) (oi := { dst := some 73, op := .load 27 (.tmp 6), type := 27, pos := "l07_deltas.go:141", after := #[{ on := 2, ground := Ground.gcOnly Departure.lateStores }], guard := none }) (v := ?_) rfl (by kernel_rfl) (by kernel_rfl) (by kernel_rfl) (fun _ _ _ h => h) (Or.inl ⟨by rfl, ?_⟩) (by assumption) ?_
            rotate_left
            · intro w hSw
              (try dsimp only at hSw)
              first | (go_simp; done) | (go_simp; with_reducible rfl)
            (try simp only [Act.put, List.setIfInBounds_toArray, List.set_cons_zero, List.set_cons_succ])
            obtain ⟨HFa, HFb, HF⟩ := hDz.out.out HXz.out HYz.out
            obtain ⟨r0, r1⟩ := pair_cells hDz.out.ra
            obtain ⟨f0, f1⟩ := pair_frozen hDz.out.ra
            have n1 : cb ≠ w.heap.size := by omega
            have n2 : cb ≠ w.heap.size + 1 := by omega
            have n3 : db ≠ w.heap.size := by omega
            have n4 : db ≠ w.heap.size + 1 := by omega
            have hSa : ((zz.setCell ⟨w.heap.size, 0, none⟩ (.slice x.va 4 x.vc)).setCell ⟨w.heap.size, 1, none⟩ (.slice x.oa x.no x.oc)).cell? ⟨cb, 0, none⟩ = some (.slice x.va 4 x.vc) ∧ ((zz.setCell ⟨w.heap.size, 0, none⟩ (.slice x.va 4 x.vc)).setCell ⟨w.heap.size, 1, none⟩ (.slice x.oa x.no x.oc)).cell? ⟨cb, 1, none⟩ = some (.slice x.oa x.no x.oc) ∧ ((zz.setCell ⟨w.heap.size, 0, none⟩ (.slice x.va 4 x.vc)).setCell ⟨w.heap.size, 1, none⟩ (.slice x.oa x.no x.oc)).cell? ⟨db, 0, none⟩ = some (.slice y.va 4 y.vc) ∧ ((zz.setCell ⟨w.heap.size, 0, none⟩ (.slice x.va 4 x.vc)).setCell ⟨w.heap.size, 1, none⟩ (.slice x.oa x.no x.oc)).cell? ⟨db, 1, none⟩ = some (.slice y.oa y.no y.oc) := ⟨(World.cell?_of_block (a := ⟨cb, _, none⟩) (pair_other _ _ n1)).trans hS.1, (World.cell?_of_block (a := ⟨cb, _, none⟩) (pair_other _ _ n1)).trans hS.2.1, (World.cell?_of_block (a := ⟨db, _, none⟩) (pair_other _ _ n3)).trans hS.2.2.1, (World.cell?_of_block (a := ⟨db, _, none⟩) (pair_other _ _ n3)).trans hS.2.2.2⟩
            refine wpAnyH_ready (rs := [2]) (by kernel_rfl) (by simp) ?_
            refine AllReadyH.cons (o := { dst := none, op := .store 27 (.tmp 2) (.tmp 72), type := 0, pos := "l07_deltas.go:141", after := #[⟨0, .data⟩, ⟨0, .phase⟩, ⟨1, .textOnly .lateStores⟩], guard := none }) rfl (fun K hK => ?_) AllReadyH.nil
            go_simp
            refine hK.out _ _ hSa (fun hHeld3 => ?_)
            clear hK K
            (try simp only [Act.put, List.setIfInBounds_toArray, List.set_cons_zero, List.set_cons_succ])
            clear r0 r1 f0 f1
            have hrb : ((zz.setCell ⟨w.heap.size, 0, none⟩ (.slice x.va 4 x.vc)).setCell ⟨w.heap.size, 1, none⟩ (.slice x.oa x.no x.oc)).heap[w.heap.size + 1]? = _ := (pair_other _ _ (by omega)).trans hDz.out.rb
            obtain ⟨r0, r1⟩ := pair_cells hrb
            obtain ⟨f0, f1⟩ := pair_frozen hrb
            clear hrb
            have hSb : ((((zz.setCell ⟨w.heap.size, 0, none⟩ (.slice x.va 4 x.vc)).setCell ⟨w.heap.size, 1, none⟩ (.slice x.oa x.no x.oc)).setCell ⟨w.heap.size + 1, 0, none⟩ (.slice y.va 4 y.vc)).setCell ⟨w.heap.size + 1, 1, none⟩ (.slice y.oa y.no y.oc)).cell? ⟨cb, 0, none⟩ = some (.slice x.va 4 x.vc) ∧ ((((zz.setCell ⟨w.heap.size, 0, none⟩ (.slice x.va 4 x.vc)).setCell ⟨w.heap.size, 1, none⟩ (.slice x.oa x.no x.oc)).setCell ⟨w.heap.size + 1, 0, none⟩ (.slice y.va 4 y.vc)).setCell ⟨w.heap.size + 1, 1, none⟩ (.slice y.oa y.no y.oc)).cell? ⟨cb, 1, none⟩ = some (.slice x.oa x.no x.oc) ∧ ((((zz.setCell ⟨w.heap.size, 0, none⟩ (.slice x.va 4 x.vc)).setCell ⟨w.heap.size, 1, none⟩ (.slice x.oa x.no x.oc)).setCell ⟨w.heap.size + 1, 0, none⟩ (.slice y.va 4 y.vc)).setCell ⟨w.heap.size + 1, 1, none⟩ (.slice y.oa y.no y.oc)).cell? ⟨db, 0, none⟩ = some (.slice y.va 4 y.vc) ∧ ((((zz.setCell ⟨w.heap.size, 0, none⟩ (.slice x.va 4 x.vc)).setCell ⟨w.heap.size, 1, none⟩ (.slice x.oa x.no x.oc)).setCell ⟨w.heap.size + 1, 0, none⟩ (.slice y.va 4 y.vc)).setCell ⟨w.heap.size + 1, 1, none⟩ (.slice y.oa y.no y.oc)).cell? ⟨db, 1, none⟩ = some (.slice y.oa y.no y.oc) := ⟨(World.cell?_of_block (a := ⟨cb, _, none⟩) ((pair_other _ _ n2).trans (pair_other _ _ n1))).trans hS.1, (World.cell?_of_block (a := ⟨cb, _, none⟩) ((pair_other _ _ n2).trans (pair_other _ _ n1))).trans hS.2.1, (World.cell?_of_block (a := ⟨db, _, none⟩) ((pair_other _ _ n4).trans (pair_other _ _ n3))).trans hS.2.2.1, (World.cell?_of_block (a := ⟨db, _, none⟩) ((pair_other _ _ n4).trans (pair_other _ _ n3))).trans hS.2.2.2⟩
            refine wpAnyH_ready (rs := [3]) (by kernel_rfl) (by simp) ?_
            refine AllReadyH.cons (o := { dst := none, op := .store 27 (.tmp 3) (.tmp 73), type := 0, pos := "l07_deltas.go:141", after := #[⟨1, .data⟩, ⟨2, .chain⟩, ⟨0, .phase⟩, ⟨1, .phase⟩, ⟨2, .phase⟩], guard := none }) rfl (fun K hK => ?_) AllReadyH.nil
            go_simp
            refine hK.out _ _ hSb (fun hHeld4 => ?_)
            clear hK K
            (try simp only [Act.put, List.setIfInBounds_toArray, List.set_cons_zero, List.set_cons_succ])
            refine wpAnyH_done (by kernel_rfl) ?_ _
            clear r0 r1 f0 f1 hSa hSb hS
            generalize (((zz.setCell ⟨w.heap.size, 0, none⟩ (.slice x.va 4 x.vc)).setCell ⟨w.heap.size, 1, none⟩ (.slice x.oa x.no x.oc)).setCell ⟨w.heap.size + 1, 0, none⟩ (.slice y.va 4 y.vc)).setCell ⟨w.heap.size + 1, 1, none⟩ (.slice y.oa y.no y.oc) = wf at HFa HFb HF ⊢
            obtain ⟨p0, p1⟩ := pair_cells HFa.out
            obtain ⟨p2, p3⟩ := pair_cells HFb.out
            go_wp2
            exact bodyPost_ret (v := .tuple #[.agg #[.slice x.va 4 x.vc, .slice x.oa x.no x.oc], .agg #[.slice y.va 4 y.vc, .slice y.oa y.no y.oc]]) (by simp [results, Try.results22, go_sem, p0, p1, p2, p3]) rfl HF.out
          obtain ⟨e4, hcw⟩ := HC2.out hcode
          subst e4
          subst hcode
          have HMw := Lib.hid hcw
          clear hcw HC2
          obtain ⟨y2, hy2⟩ : ∃ y2 : CartC, y2 = ⟨va, vc, oa, no, oc⟩ := ⟨_, rfl⟩
          have HMc : Hid (CrtC w8 lo w8.heap.size y2) := by rw [hy2]; exact HMw
          clear HMw
          have e1 : va = y2.va := by rw [hy2]
          have e2 : vc = y2.vc := by rw [hy2]
          have e3 : oa = y2.oa := by rw [hy2]
          have e5 : no = y2.no := by rw [hy2]
          have e6 : oc = y2.oc := by rw [hy2]
          subst e1 e2 e3 e5 e6
          clear hy2
          have HB9 := Lib.hid (HB2.out.turn y2 HMc.out)
          obtain ⟨m0, m1⟩ := pair_cells HE2.out
          obtain ⟨r0, r1⟩ := pair_cells HB2.out.bz
          obtain ⟨f0, f1⟩ := pair_frozen HB2.out.bz
          go_upto_region 17 with fail
          clear m0 m1 r0 r1 f0 f1 HB2 HE2 HMc
          generalize (w8.setCell ⟨db, 0, none⟩ (.slice y2.va 4 y2.vc)).setCell ⟨db, 1, none⟩ (.slice y2.oa y2.no y2.oc) = w9 at HB9 ⊢
          go_upto_region 17 with fail
          obtain ⟨zz, hze⟩ : ∃ z, w9.drew = z := ⟨_, rfl⟩
          have hS : w9.drew.cell? ⟨cb, 0, none⟩ = some (.slice x.va 4 x.vc) ∧ w9.drew.cell? ⟨cb, 1, none⟩ = some (.slice x.oa x.no x.oc) ∧ w9.drew.cell? ⟨db, 0, none⟩ = some (.slice y2.va 4 y2.vc) ∧ w9.drew.cell? ⟨db, 1, none⟩ = some (.slice y2.oa y2.no y2.oc) := ⟨(pair_cells HB9.out.bx).1, (pair_cells HB9.out.bx).2, (pair_cells HB9.out.bz).1, (pair_cells HB9.out.bz).2⟩
          have gz : Below w9.heap.size w9 zz := by rw [← hze]; exact ⟨rfl, rfl, rfl, Nat.le_refl _, fun _ _ => rfl⟩
          have HIz := Lib.hid (HB9.out.below gz)
          have hgl := HIz.out.d.glt
          have hDz : Hid (D3 w zz #[.slice none 0 0, .slice none 0 0] #[.slice none 0 0, .slice none 0 0]) := ⟨HIz.out.d.ra, HIz.out.d.rb, HIz.out.d.bel⟩
          have HXz := Lib.hid ((CrtC.weak HIz.out.cx).more (lo' := w.heap.size) (hi' := zz.heap.size) (by omega) (Nat.le_refl _))
          have HYz := Lib.hid ((CrtC.weak HIz.out.cy).more (lo' := w.heap.size) (hi' := zz.heap.size) (by omega) (Nat.le_refl _))
          rw [hze] at hS
          refine wp_region_held_drew (S := fun w' => w'.cell? ⟨cb, 0, none⟩ = some (.slice x.va 4 x.vc) ∧ w'.cell? ⟨cb, 1, none⟩ = some (.slice x.oa x.no x.oc) ∧ w'.cell? ⟨db, 0, none⟩ = some (.slice y2.va 4 y2.vc) ∧ w'.cell? ⟨db, 1, none⟩ = some (.slice y2.oa y2.no y2.oc)) (by kernel_rfl) (by rw [hze]; exact hS) (fun hHeld => ?_)
          rw [hze]
          clear hHeld hze gz
          refine wpAnyH_take (i := 0) (oi := { dst := some 72, op := .load 27 (.tmp 5), type := 27, pos := "l07_deltas.go:141", after := #[], guard := none }) (v := ?_) rfl (by kernel_rfl) (by kernel_rfl) (by kernel_rfl) (fun _ _ _ h => h) (Or.inl ⟨by rfl, ?_⟩) (by assumption) ?_
          rotate_left
          · intro w hSw
            (try dsimp only at hSw)
            first | (go_simp; done) | (go_simp; with_reducible rfl)
          (try simp only [Act.put, List.setIfInBounds_toArray, List.set_cons_zero, List.set_cons_succ])
          refine wpAnyH_take (i := 1) (oi := { dst := some 73, op := .load 27 (.tmp 6), type := 27, pos := "l07_deltas.go:141", after := #[{ on := 2, ground := Ground.gcOnly Departure.lateStores }], guard := none }) (v := ?_) rfl (by kernel_rfl) (by kernel_rfl) (by kernel_rfl) (fun _ _ _ h => h) (Or.inl ⟨by rfl, ?_⟩) (by assumption) ?_
          rotate_left
          · intro w hSw
            (try dsimp only at hSw)
            first | (go_simp; done) | (go_simp; with_reducible rfl)
          (try simp only [Act.put, List.setIfInBounds_toArray, List.set_cons_zero, List.set_cons_succ])
          obtain ⟨HFa, HFb, HF⟩ := hDz.out.out HXz.out HYz.out
          obtain ⟨r0, r1⟩ := pair_cells hDz.out.ra
          obtain ⟨f0, f1⟩ := pair_frozen hDz.out.ra
          have n1 : cb ≠ w.heap.size := by omega
          have n2 : cb ≠ w.heap.size + 1 := by omega
          have n3 : db ≠ w.heap.size := by omega
          have n4 : db ≠ w.heap.size + 1 := by omega
          have hSa : ((zz.setCell ⟨w.heap.size, 0, none⟩ (.slice x.va 4 x.vc)).setCell ⟨w.heap.size, 1, none⟩ (.slice x.oa x.no x.oc)).cell? ⟨cb, 0, none⟩ = some (.slice x.va 4 x.vc) ∧ ((zz.setCell ⟨w.heap.size, 0, none⟩ (.slice x.va 4 x.vc)).setCell ⟨w.heap.size, 1, none⟩ (.slice x.oa x.no x.oc)).cell? ⟨cb, 1, none⟩ = some (.slice x.oa x.no x.oc) ∧ ((zz.setCell ⟨w.heap.size, 0, none⟩ (.slice x.va 4 x.vc)).setCell ⟨w.heap.size, 1, none⟩ (.slice x.oa x.no x.oc)).cell? ⟨db, 0, none⟩ = some (.slice y2.va 4 y2.vc) ∧ ((zz.setCell ⟨w.heap.size, 0, none⟩ (.slice x.va 4 x.vc)).setCell ⟨w.heap.size, 1, none⟩ (.slice x.oa x.no x.oc)).cell? ⟨db, 1, none⟩ = some (.slice y2.oa y2.no y2.oc) := ⟨(World.cell?_of_block (a := ⟨cb, _, none⟩) (pair_other _ _ n1)).trans hS.1, (World.cell?_of_block (a := ⟨cb, _, none⟩) (pair_other _ _ n1)).trans hS.2.1, (World.cell?_of_block (a := ⟨db, _, none⟩) (pair_other _ _ n3)).trans hS.2.2.1, (World.cell?_of_block (a := ⟨db, _, none⟩) (pair_other _ _ n3)).trans hS.2.2.2⟩
          refine wpAnyH_ready (rs := [2]) (by kernel_rfl) (by simp) ?_
          refine AllReadyH.cons (o := { dst := none, op := .store 27 (.tmp 2) (.tmp 72), type := 0, pos := "l07_deltas.go:141", after := #[⟨0, .data⟩, ⟨0, .phase⟩, ⟨1, .textOnly .lateStores⟩], guard := none }) rfl (fun K hK => ?_) AllReadyH.nil
          go_simp
          refine hK.out _ _ hSa (fun hHeld3 => ?_)
          clear hK K
          (try simp only [Act.put, List.setIfInBounds_toArray, List.set_cons_zero, List.set_cons_succ])
          clear r0 r1 f0 f1
          have hrb : ((zz.setCell ⟨w.heap.size, 0, none⟩ (.slice x.va 4 x.vc)).setCell ⟨w.heap.size, 1, none⟩ (.slice x.oa x.no x.oc)).heap[w.heap.size + 1]? = _ := (pair_other _ _ (by omega)).trans hDz.out.rb
          obtain ⟨r0, r1⟩ := pair_cells hrb
          obtain ⟨f0, f1⟩ := pair_frozen hrb
          clear hrb
          have hSb : ((((zz.setCell ⟨w.heap.size, 0, none⟩ (.slice x.va 4 x.vc)).setCell ⟨w.heap.size, 1, none⟩ (.slice x.oa x.no x.oc)).setCell ⟨w.heap.size + 1, 0, none⟩ (.slice y2.va 4 y2.vc)).setCell ⟨w.heap.size + 1, 1, none⟩ (.slice y2.oa y2.no y2.oc)).cell? ⟨cb, 0, none⟩ = some (.slice x.va 4 x.vc) ∧ ((((zz.setCell ⟨w.heap.size, 0, none⟩ (.slice x.va 4 x.vc)).setCell ⟨w.heap.size, 1, none⟩ (.slice x.oa x.no x.oc)).setCell ⟨w.heap.size + 1, 0, none⟩ (.slice y2.va 4 y2.vc)).setCell ⟨w.heap.size + 1, 1, none⟩ (.slice y2.oa y2.no y2.oc)).cell? ⟨cb, 1, none⟩ = some (.slice x.oa x.no x.oc) ∧ ((((zz.setCell ⟨w.heap.size, 0, none⟩ (.slice x.va 4 x.vc)).setCell ⟨w.heap.size, 1, none⟩ (.slice x.oa x.no x.oc)).setCell ⟨w.heap.size + 1, 0, none⟩ (.slice y2.va 4 y2.vc)).setCell ⟨w.heap.size + 1, 1, none⟩ (.slice y2.oa y2.no y2.oc)).cell? ⟨db, 0, none⟩ = some (.slice y2.va 4 y2.vc) ∧ ((((zz.setCell ⟨w.heap.size, 0, none⟩ (.slice x.va 4 x.vc)).setCell ⟨w.heap.size, 1, none⟩ (.slice x.oa x.no x.oc)).setCell ⟨w.heap.size + 1, 0, none⟩ (.slice y2.va 4 y2.vc)).setCell ⟨w.heap.size + 1, 1, none⟩ (.slice y2.oa y2.no y2.oc)).cell? ⟨db, 1, none⟩ = some (.slice y2.oa y2.no y2.oc) := ⟨(World.cell?_of_block (a := ⟨cb, _, none⟩) ((pair_other _ _ n2).trans (pair_other _ _ n1))).trans hS.1, (World.cell?_of_block (a := ⟨cb, _, none⟩) ((pair_other _ _ n2).trans (pair_other _ _ n1))).trans hS.2.1, (World.cell?_of_block (a := ⟨db, _, none⟩) ((pair_other _ _ n4).trans (pair_other _ _ n3))).trans hS.2.2.1, (World.cell?_of_block (a := ⟨db, _, none⟩) ((pair_other _ _ n4).trans (pair_other _ _ n3))).trans hS.2.2.2⟩
          refine wpAnyH_ready (rs := [3]) (by kernel_rfl) (by simp) ?_
          refine AllReadyH.cons (o := { dst := none, op := .store 27 (.tmp 3) (.tmp 73), type := 0, pos := "l07_deltas.go:141", after := #[⟨1, .data⟩, ⟨2, .chain⟩, ⟨0, .phase⟩, ⟨1, .phase⟩, ⟨2, .phase⟩], guard := none }) rfl (fun K hK => ?_) AllReadyH.nil
          go_simp
          refine hK.out _ _ hSb (fun hHeld4 => ?_)
          clear hK K
          (try simp only [Act.put, List.setIfInBounds_toArray, List.set_cons_zero, List.set_cons_succ])
          refine wpAnyH_done (by kernel_rfl) ?_ _
          clear r0 r1 f0 f1 hSa hSb hS
          generalize (((zz.setCell ⟨w.heap.size, 0, none⟩ (.slice x.va 4 x.vc)).setCell ⟨w.heap.size, 1, none⟩ (.slice x.oa x.no x.oc)).setCell ⟨w.heap.size + 1, 0, none⟩ (.slice y2.va 4 y2.vc)).setCell ⟨w.heap.size + 1, 1, none⟩ (.slice y2.oa y2.no y2.oc) = wf at HFa HFb HF ⊢
          obtain ⟨p0, p1⟩ := pair_cells HFa.out
          obtain ⟨p2, p3⟩ := pair_cells HFb.out
          go_wp2
          exact bodyPost_ret (v := .tuple #[.agg #[.slice x.va 4 x.vc, .slice x.oa x.no x.oc], .agg #[.slice y2.va 4 y2.vc, .slice y2.oa y2.no y2.oc]]) (by simp [results, Try.results22, go_sem, p0, p1, p2, p3]) rfl HF.out
        · skip
          have hal : Below y1.heap.size y1 (y1.alloc (.cells #[.slice none 0 0, .slice none 0 0] 27)) := (Below.refl _ _).alloc (Nat.le_refl _) _
          have HJ5 := Lib.hid (HJ1.out.below hal)
          have HE5 := Lib.hid (boxAt (Below.refl _ (y1.alloc (.cells #[.slice none 0 0, .slice none 0 0] 27))))
          have hlz := HJ1.out.d.rd.lt
          have hlb : db < y1.heap.size := lt_of_row HJ1.out.bz
          have hSn : (y1.alloc (.cells #[.slice none 0 0, .slice none 0 0] 27)).cell? ⟨db, 0, none⟩ = some (.slice y.va 4 y.vc) ∧ (y1.alloc (.cells #[.slice none 0 0, .slice none 0 0] 27)).cell? ⟨db, 1, none⟩ = some (.slice y.oa y.no y.oc) := pair_cells HJ5.out.bz
          go_simp
          refine hK.out _ _ hSn (fun hHeld5 => ?_)
          clear hK K hal
          (try simp only [Act.put, List.setIfInBounds_toArray, List.set_cons_zero, List.set_cons_succ])
          generalize y1.alloc (.cells #[.slice none 0 0, .slice none 0 0] 27) = y5 at hHeld5 HJ5 HE5 ⊢
          have hel : y1.heap.size < y5.heap.size := lt_of_row HE5.out
          generalize y1.heap.size = eb at HE5 hlz hlb hel ⊢
          refine wpAnyH_ready (rs := [3]) (by kernel_rfl) (by simp) ?_
          refine AllReadyH.cons (o := { dst := some 66, op := .call { callee := .value (.func 91), args := #[.tmp 63, .const (Value.int IntKind.i64 0), .tmp 65], argTypes := #[27, 2, 102] }, type := 49, pos := "l07_deltas.go:136", after := #[⟨0, .data⟩, ⟨2, .data⟩, ⟨2, .chain⟩], guard := none }) rfl (fun K hK => ?_) AllReadyH.nil
          go_simp
          go_at_call 91
          refine (issueCrt y5 lo y5.heap.size y 0 kind qty dv sq item HJ5.out.cy (Nat.le_refl _) hit).mono ?_
          rintro e y6 ⟨va, nv, vc, oa, no, oc, code, rfl, hb, hcr⟩
          have HJ6 := Lib.hid (HJ5.out.below hb)
          have hll := HJ5.out.d.rd.lt
          have hgg := HJ5.out.glo
          have hlb := HJ5.out.clo
          have hlc := HJ5.out.cdb
          have hld := lt_of_row HJ5.out.bz
          have HCr := Lib.hid hcr
          have HE6 := Lib.hid ((hb.block eb hel).trans HE5.out)
          have hel := Nat.lt_of_lt_of_le hel hb.size
          have hSn : y6.cell? ⟨db, 0, none⟩ = some (.slice y.va 4 y.vc) ∧ y6.cell? ⟨db, 1, none⟩ = some (.slice y.oa y.no y.oc) := pair_cells HJ6.out.bz
          have hzi : lo ≤ y5.heap.size := by omega
          have hzs := hb.size
          have HCs : Hid (code = 0 → nv = 4 ∧ Crt y6 lo y6.heap.size va vc oa no oc 400) := fun h => ⟨(HCr.out h).1, (HCr.out h).2.more hzi (Nat.le_refl _) (by omega)⟩
          clear hb hcr HCr hzi hzs hll hgg hlb hlc hld
          refine hK.out _ _ hSn (fun hHeld6 => ?_)
          clear hK K
          (try simp only [Act.put, List.setIfInBounds_toArray, List.set_cons_zero, List.set_cons_succ])
          refine wpAnyH_take (i := 4) (oi := { dst := some 62, op := .move (.tmp 66), type := 49, pos := "l07_deltas.go:136", after := #[⟨3, .data⟩], guard := none }) (v := ?_) rfl (by kernel_rfl) (by kernel_rfl) (by kernel_rfl) (fun _ _ _ h => h) (Or.inl ⟨by rfl, ?_⟩) (by assumption) ?_
          rotate_left
          · intro w hSw
            (try dsimp only at hSw)
            first | (go_simp; done) | (go_simp; with_reducible rfl)
          (try simp only [Act.put, List.setIfInBounds_toArray, List.set_cons_zero, List.set_cons_succ])
          refine wpAnyH_take (i := 5) (oi := { dst := some 67, op := .extract (.tmp 62) 0, type := 27, pos := "l07_deltas.go:136", after := #[⟨4, .data⟩], guard := none }) (v := ?_) rfl (by kernel_rfl) (by kernel_rfl) (by kernel_rfl) (fun _ _ _ h => h) (Or.inl ⟨by rfl, ?_⟩) (by assumption) ?_
          rotate_left
          · intro w hSw
            (try dsimp only at hSw)
            first | (go_simp; done) | (go_simp; with_reducible rfl)
          (try simp only [Act.put, List.setIfInBounds_toArray, List.set_cons_zero, List.set_cons_succ])
          refine wpAnyH_take (i := 6) (oi := { dst := some 68, op := .extract (.tmp 62) 1, type := 2, pos := "l07_deltas.go:136", after := #[⟨4, .data⟩, { on := 8, ground := Ground.gcOnly Departure.lateStores }], guard := none }) (v := ?_) rfl (by kernel_rfl) (by kernel_rfl) (by kernel_rfl) (fun _ _ _ h => h) (Or.inl ⟨by rfl, ?_⟩) (by assumption) ?_
          rotate_left
          · intro w hSw
            (try dsimp only at hSw)
            first | (go_simp; done) | (go_simp; with_reducible rfl)
          (try simp only [Act.put, List.setIfInBounds_toArray, List.set_cons_zero, List.set_cons_succ])
          have hlz2 : cb < db := HJ6.out.cdb
          have hdl : db < eb := by omega
          obtain ⟨r0, r1⟩ := pair_cells HE6.out
          obtain ⟨f0, f1⟩ := pair_frozen HE6.out
          have hko : ∀ j, j ≠ eb → ((y6.setCell ⟨eb, 0, none⟩ (.slice va nv vc)).setCell ⟨eb, 1, none⟩ (.slice oa no oc)).heap[j]? = y6.heap[j]? := fun j hj => pair_other _ _ hj
          have hzz := pair_size y6 eb (.slice va nv vc) (.slice oa no oc)
          have HB2 : Hid (TgI w ((y6.setCell ⟨eb, 0, none⟩ (.slice va nv vc)).setCell ⟨eb, 1, none⟩ (.slice oa no oc)) B g a len cap lo cb db x y) := by
            have h := HJ6.out
            have h1 := h.glo
            have h2 := h.clo
            have hgl := h.d.glt
            have hB := h.d.rd.own
            refine ⟨⟨(hko _ (by omega)).trans h.d.ra, (hko _ (by omega)).trans h.d.rb, h.d.bel.trans ((below_set2 y6 eb 0 1 _ _).mono (by omega)), h.d.rd.kept fun k hk' => hko k (by omega), hgl⟩, (hko _ (by omega)).trans h.bx, (hko _ (by omega)).trans h.bz, ?_, ?_, h1, h2, h.cdb⟩
            · rw [hzz]
              exact Crt.other h.cx HE6.out fun j _ _ hne => hko j hne
            · rw [hzz]
              exact Crt.other h.cy HE6.out fun j _ _ hne => hko j hne
          have HC2 : Hid (code = 0 → nv = 4 ∧ Crt ((y6.setCell ⟨eb, 0, none⟩ (.slice va nv vc)).setCell ⟨eb, 1, none⟩ (.slice oa no oc)) lo ((y6.setCell ⟨eb, 0, none⟩ (.slice va nv vc)).setCell ⟨eb, 1, none⟩ (.slice oa no oc)).heap.size va vc oa no oc 400) := fun h => ⟨(HCs.out h).1, by rw [hzz]; exact Crt.other (HCs.out h).2 HE6.out fun j _ _ hne => hko j hne⟩
          have HE2 : Hid (((y6.setCell ⟨eb, 0, none⟩ (.slice va nv vc)).setCell ⟨eb, 1, none⟩ (.slice oa no oc)).heap[eb]? = some (.cells #[.slice va nv vc, .slice oa no oc] 27 (0, 0))) := pair_set _ _ HE6.out
          clear hko hzz HCs
          have hSn : ((y6.setCell ⟨eb, 0, none⟩ (.slice va nv vc)).setCell ⟨eb, 1, none⟩ (.slice oa no oc)).cell? ⟨db, 0, none⟩ = some (.slice y.va 4 y.vc) ∧ ((y6.setCell ⟨eb, 0, none⟩ (.slice va nv vc)).setCell ⟨eb, 1, none⟩ (.slice oa no oc)).cell? ⟨db, 1, none⟩ = some (.slice y.oa y.no y.oc) := pair_cells HB2.out.bz
          refine wpAnyH_ready (rs := [8]) (by kernel_rfl) (by simp) ?_
          refine AllReadyH.cons (o := { dst := none, op := .store 27 (.tmp 11) (.tmp 67), type := 0, pos := "l07_deltas.go:136", after := #[⟨7, .data⟩, ⟨5, .data⟩, ⟨3, .chain⟩, ⟨0, .phase⟩, ⟨1, .phase⟩, ⟨2, .phase⟩, ⟨3, .phase⟩, ⟨4, .phase⟩, ⟨5, .phase⟩, ⟨6, .textOnly .lateStores⟩, ⟨7, .phase⟩], guard := none }) rfl (fun K hK => ?_) AllReadyH.nil
          go_simp
          refine hK.out _ _ hSn (fun hHeld7 => ?_)
          clear hK K
          (try simp only [Act.put, List.setIfInBounds_toArray, List.set_cons_zero, List.set_cons_succ])
          refine wpAnyH_take (i := 9) (oi := { dst := some 12, op := .assign (.tmp 68), type := 2, pos := "l07_deltas.go:136", after := #[⟨6, .data⟩, ⟨8, .chain⟩, ⟨0, .phase⟩, ⟨1, .phase⟩, ⟨2, .phase⟩, ⟨3, .phase⟩, ⟨4, .phase⟩, ⟨5, .phase⟩, ⟨6, .phase⟩, ⟨7, .phase⟩, ⟨8, .phase⟩], guard := none }) (v := ?_) rfl (by kernel_rfl) (by kernel_rfl) (by kernel_rfl) (fun _ _ _ h => h) (Or.inl ⟨by rfl, ?_⟩) (by assumption) ?_
          rotate_left
          · intro w hSw
            (try dsimp only at hSw)
            first | (go_simp; done) | (go_simp; with_reducible rfl)
          (try simp only [Act.put, List.setIfInBounds_toArray, List.set_cons_zero, List.set_cons_succ])
          refine wpAnyH_done (by kernel_rfl) ?_ _
          clear hSn r0 r1 f0 f1 HE6
          generalize (y6.setCell ⟨eb, 0, none⟩ (.slice va nv vc)).setCell ⟨eb, 1, none⟩ (.slice oa no oc) = w8 at HB2 HC2 HE2 ⊢
          by_cases hcode : code = 0
          rotate_left
          · have hci : ((code == 0) = false) := by simpa using hcode
            have hcd : ¬ (code = 0) := hcode
            clear HC2 HE2
            go_upto_region 17 with fail
            obtain ⟨zz, hze⟩ : ∃ z, w8.drew = z := ⟨_, rfl⟩
            have hS : w8.drew.cell? ⟨cb, 0, none⟩ = some (.slice x.va 4 x.vc) ∧ w8.drew.cell? ⟨cb, 1, none⟩ = some (.slice x.oa x.no x.oc) ∧ w8.drew.cell? ⟨db, 0, none⟩ = some (.slice y.va 4 y.vc) ∧ w8.drew.cell? ⟨db, 1, none⟩ = some (.slice y.oa y.no y.oc) := ⟨(pair_cells HB2.out.bx).1, (pair_cells HB2.out.bx).2, (pair_cells HB2.out.bz).1, (pair_cells HB2.out.bz).2⟩
            have gz : Below w8.heap.size w8 zz := by rw [← hze]; exact ⟨rfl, rfl, rfl, Nat.le_refl _, fun _ _ => rfl⟩
            have HIz := Lib.hid (HB2.out.below gz)
            have hgl := HIz.out.d.glt
            have hDz : Hid (D3 w zz #[.slice none 0 0, .slice none 0 0] #[.slice none 0 0, .slice none 0 0]) := ⟨HIz.out.d.ra, HIz.out.d.rb, HIz.out.d.bel⟩
            have HXz := Lib.hid ((CrtC.weak HIz.out.cx).more (lo' := w.heap.size) (hi' := zz.heap.size) (by omega) (Nat.le_refl _))
            have HYz := Lib.hid ((CrtC.weak HIz.out.cy).more (lo' := w.heap.size) (hi' := zz.heap.size) (by omega) (Nat.le_refl _))
            rw [hze] at hS
            refine wp_region_held_drew (S := fun w' => w'.cell? ⟨cb, 0, none⟩ = some (.slice x.va 4 x.vc) ∧ w'.cell? ⟨cb, 1, none⟩ = some (.slice x.oa x.no x.oc) ∧ w'.cell? ⟨db, 0, none⟩ = some (.slice y.va 4 y.vc) ∧ w'.cell? ⟨db, 1, none⟩ = some (.slice y.oa y.no y.oc)) (by kernel_rfl) (by rw [hze]; exact hS) (fun hHeld => ?_)
            rw [hze]
            clear hHeld hze gz
            refine wpAnyH_take (i := 0) (oi := { dst := some 72, op := .load 27 (.tmp 5), type := 27, pos := "l07_deltas.go:141", after := #[], guard := none }) (v := ?_) rfl (by kernel_rfl) (by kernel_rfl) (by kernel_rfl) (fun _ _ _ h => h) (Or.inl ⟨by rfl, ?_⟩) (by assumption) ?_
            rotate_left
            · intro w hSw
              (try dsimp only at hSw)
              first | (go_simp; done) | (go_simp; with_reducible rfl)
            (try simp only [Act.put, List.setIfInBounds_toArray, List.set_cons_zero, List.set_cons_succ])
            refine wpAnyH_take (i := 1) (oi := { dst := some 73, op := .load 27 (.tmp 6), type := 27, pos := "l07_deltas.go:141", after := #[{ on := 2, ground := Ground.gcOnly Departure.lateStores }], guard := none }) (v := ?_) rfl (by kernel_rfl) (by kernel_rfl) (by kernel_rfl) (fun _ _ _ h => h) (Or.inl ⟨by rfl, ?_⟩) (by assumption) ?_
            rotate_left
            · intro w hSw
              (try dsimp only at hSw)
              first | (go_simp; done) | (go_simp; with_reducible rfl)
            (try simp only [Act.put, List.setIfInBounds_toArray, List.set_cons_zero, List.set_cons_succ])
            obtain ⟨HFa, HFb, HF⟩ := hDz.out.out HXz.out HYz.out
            obtain ⟨r0, r1⟩ := pair_cells hDz.out.ra
            obtain ⟨f0, f1⟩ := pair_frozen hDz.out.ra
            have n1 : cb ≠ w.heap.size := by omega
            have n2 : cb ≠ w.heap.size + 1 := by omega
            have n3 : db ≠ w.heap.size := by omega
            have n4 : db ≠ w.heap.size + 1 := by omega
            have hSa : ((zz.setCell ⟨w.heap.size, 0, none⟩ (.slice x.va 4 x.vc)).setCell ⟨w.heap.size, 1, none⟩ (.slice x.oa x.no x.oc)).cell? ⟨cb, 0, none⟩ = some (.slice x.va 4 x.vc) ∧ ((zz.setCell ⟨w.heap.size, 0, none⟩ (.slice x.va 4 x.vc)).setCell ⟨w.heap.size, 1, none⟩ (.slice x.oa x.no x.oc)).cell? ⟨cb, 1, none⟩ = some (.slice x.oa x.no x.oc) ∧ ((zz.setCell ⟨w.heap.size, 0, none⟩ (.slice x.va 4 x.vc)).setCell ⟨w.heap.size, 1, none⟩ (.slice x.oa x.no x.oc)).cell? ⟨db, 0, none⟩ = some (.slice y.va 4 y.vc) ∧ ((zz.setCell ⟨w.heap.size, 0, none⟩ (.slice x.va 4 x.vc)).setCell ⟨w.heap.size, 1, none⟩ (.slice x.oa x.no x.oc)).cell? ⟨db, 1, none⟩ = some (.slice y.oa y.no y.oc) := ⟨(World.cell?_of_block (a := ⟨cb, _, none⟩) (pair_other _ _ n1)).trans hS.1, (World.cell?_of_block (a := ⟨cb, _, none⟩) (pair_other _ _ n1)).trans hS.2.1, (World.cell?_of_block (a := ⟨db, _, none⟩) (pair_other _ _ n3)).trans hS.2.2.1, (World.cell?_of_block (a := ⟨db, _, none⟩) (pair_other _ _ n3)).trans hS.2.2.2⟩
            refine wpAnyH_ready (rs := [2]) (by kernel_rfl) (by simp) ?_
            refine AllReadyH.cons (o := { dst := none, op := .store 27 (.tmp 2) (.tmp 72), type := 0, pos := "l07_deltas.go:141", after := #[⟨0, .data⟩, ⟨0, .phase⟩, ⟨1, .textOnly .lateStores⟩], guard := none }) rfl (fun K hK => ?_) AllReadyH.nil
            go_simp
            refine hK.out _ _ hSa (fun hHeld3 => ?_)
            clear hK K
            (try simp only [Act.put, List.setIfInBounds_toArray, List.set_cons_zero, List.set_cons_succ])
            clear r0 r1 f0 f1
            have hrb : ((zz.setCell ⟨w.heap.size, 0, none⟩ (.slice x.va 4 x.vc)).setCell ⟨w.heap.size, 1, none⟩ (.slice x.oa x.no x.oc)).heap[w.heap.size + 1]? = _ := (pair_other _ _ (by omega)).trans hDz.out.rb
            obtain ⟨r0, r1⟩ := pair_cells hrb
            obtain ⟨f0, f1⟩ := pair_frozen hrb
            clear hrb
            have hSb : ((((zz.setCell ⟨w.heap.size, 0, none⟩ (.slice x.va 4 x.vc)).setCell ⟨w.heap.size, 1, none⟩ (.slice x.oa x.no x.oc)).setCell ⟨w.heap.size + 1, 0, none⟩ (.slice y.va 4 y.vc)).setCell ⟨w.heap.size + 1, 1, none⟩ (.slice y.oa y.no y.oc)).cell? ⟨cb, 0, none⟩ = some (.slice x.va 4 x.vc) ∧ ((((zz.setCell ⟨w.heap.size, 0, none⟩ (.slice x.va 4 x.vc)).setCell ⟨w.heap.size, 1, none⟩ (.slice x.oa x.no x.oc)).setCell ⟨w.heap.size + 1, 0, none⟩ (.slice y.va 4 y.vc)).setCell ⟨w.heap.size + 1, 1, none⟩ (.slice y.oa y.no y.oc)).cell? ⟨cb, 1, none⟩ = some (.slice x.oa x.no x.oc) ∧ ((((zz.setCell ⟨w.heap.size, 0, none⟩ (.slice x.va 4 x.vc)).setCell ⟨w.heap.size, 1, none⟩ (.slice x.oa x.no x.oc)).setCell ⟨w.heap.size + 1, 0, none⟩ (.slice y.va 4 y.vc)).setCell ⟨w.heap.size + 1, 1, none⟩ (.slice y.oa y.no y.oc)).cell? ⟨db, 0, none⟩ = some (.slice y.va 4 y.vc) ∧ ((((zz.setCell ⟨w.heap.size, 0, none⟩ (.slice x.va 4 x.vc)).setCell ⟨w.heap.size, 1, none⟩ (.slice x.oa x.no x.oc)).setCell ⟨w.heap.size + 1, 0, none⟩ (.slice y.va 4 y.vc)).setCell ⟨w.heap.size + 1, 1, none⟩ (.slice y.oa y.no y.oc)).cell? ⟨db, 1, none⟩ = some (.slice y.oa y.no y.oc) := ⟨(World.cell?_of_block (a := ⟨cb, _, none⟩) ((pair_other _ _ n2).trans (pair_other _ _ n1))).trans hS.1, (World.cell?_of_block (a := ⟨cb, _, none⟩) ((pair_other _ _ n2).trans (pair_other _ _ n1))).trans hS.2.1, (World.cell?_of_block (a := ⟨db, _, none⟩) ((pair_other _ _ n4).trans (pair_other _ _ n3))).trans hS.2.2.1, (World.cell?_of_block (a := ⟨db, _, none⟩) ((pair_other _ _ n4).trans (pair_other _ _ n3))).trans hS.2.2.2⟩
            refine wpAnyH_ready (rs := [3]) (by kernel_rfl) (by simp) ?_
            refine AllReadyH.cons (o := { dst := none, op := .store 27 (.tmp 3) (.tmp 73), type := 0, pos := "l07_deltas.go:141", after := #[⟨1, .data⟩, ⟨2, .chain⟩, ⟨0, .phase⟩, ⟨1, .phase⟩, ⟨2, .phase⟩], guard := none }) rfl (fun K hK => ?_) AllReadyH.nil
            go_simp
            refine hK.out _ _ hSb (fun hHeld4 => ?_)
            clear hK K
            (try simp only [Act.put, List.setIfInBounds_toArray, List.set_cons_zero, List.set_cons_succ])
            refine wpAnyH_done (by kernel_rfl) ?_ _
            clear r0 r1 f0 f1 hSa hSb hS
            generalize (((zz.setCell ⟨w.heap.size, 0, none⟩ (.slice x.va 4 x.vc)).setCell ⟨w.heap.size, 1, none⟩ (.slice x.oa x.no x.oc)).setCell ⟨w.heap.size + 1, 0, none⟩ (.slice y.va 4 y.vc)).setCell ⟨w.heap.size + 1, 1, none⟩ (.slice y.oa y.no y.oc) = wf at HFa HFb HF ⊢
            obtain ⟨p0, p1⟩ := pair_cells HFa.out
            obtain ⟨p2, p3⟩ := pair_cells HFb.out
            go_wp2
            exact bodyPost_ret (v := .tuple #[.agg #[.slice x.va 4 x.vc, .slice x.oa x.no x.oc], .agg #[.slice y.va 4 y.vc, .slice y.oa y.no y.oc]]) (by simp [results, Try.results22, go_sem, p0, p1, p2, p3]) rfl HF.out
          obtain ⟨e4, hcw⟩ := HC2.out hcode
          subst e4
          subst hcode
          have HMw := Lib.hid hcw
          clear hcw HC2
          obtain ⟨y2, hy2⟩ : ∃ y2 : CartC, y2 = ⟨va, vc, oa, no, oc⟩ := ⟨_, rfl⟩
          have HMc : Hid (CrtC w8 lo w8.heap.size y2) := by rw [hy2]; exact HMw
          clear HMw
          have e1 : va = y2.va := by rw [hy2]
          have e2 : vc = y2.vc := by rw [hy2]
          have e3 : oa = y2.oa := by rw [hy2]
          have e5 : no = y2.no := by rw [hy2]
          have e6 : oc = y2.oc := by rw [hy2]
          subst e1 e2 e3 e5 e6
          clear hy2
          have HB9 := Lib.hid (HB2.out.turn y2 HMc.out)
          obtain ⟨m0, m1⟩ := pair_cells HE2.out
          obtain ⟨r0, r1⟩ := pair_cells HB2.out.bz
          obtain ⟨f0, f1⟩ := pair_frozen HB2.out.bz
          go_upto_region 17 with fail
          clear m0 m1 r0 r1 f0 f1 HB2 HE2 HMc
          generalize (w8.setCell ⟨db, 0, none⟩ (.slice y2.va 4 y2.vc)).setCell ⟨db, 1, none⟩ (.slice y2.oa y2.no y2.oc) = w9 at HB9 ⊢
          go_upto_region 17 with fail
          obtain ⟨zz, hze⟩ : ∃ z, w9.drew = z := ⟨_, rfl⟩
          have hS : w9.drew.cell? ⟨cb, 0, none⟩ = some (.slice x.va 4 x.vc) ∧ w9.drew.cell? ⟨cb, 1, none⟩ = some (.slice x.oa x.no x.oc) ∧ w9.drew.cell? ⟨db, 0, none⟩ = some (.slice y2.va 4 y2.vc) ∧ w9.drew.cell? ⟨db, 1, none⟩ = some (.slice y2.oa y2.no y2.oc) := ⟨(pair_cells HB9.out.bx).1, (pair_cells HB9.out.bx).2, (pair_cells HB9.out.bz).1, (pair_cells HB9.out.bz).2⟩
          have gz : Below w9.heap.size w9 zz := by rw [← hze]; exact ⟨rfl, rfl, rfl, Nat.le_refl _, fun _ _ => rfl⟩
          have HIz := Lib.hid (HB9.out.below gz)
          have hgl := HIz.out.d.glt
          have hDz : Hid (D3 w zz #[.slice none 0 0, .slice none 0 0] #[.slice none 0 0, .slice none 0 0]) := ⟨HIz.out.d.ra, HIz.out.d.rb, HIz.out.d.bel⟩
          have HXz := Lib.hid ((CrtC.weak HIz.out.cx).more (lo' := w.heap.size) (hi' := zz.heap.size) (by omega) (Nat.le_refl _))
          have HYz := Lib.hid ((CrtC.weak HIz.out.cy).more (lo' := w.heap.size) (hi' := zz.heap.size) (by omega) (Nat.le_refl _))
          rw [hze] at hS
          refine wp_region_held_drew (S := fun w' => w'.cell? ⟨cb, 0, none⟩ = some (.slice x.va 4 x.vc) ∧ w'.cell? ⟨cb, 1, none⟩ = some (.slice x.oa x.no x.oc) ∧ w'.cell? ⟨db, 0, none⟩ = some (.slice y2.va 4 y2.vc) ∧ w'.cell? ⟨db, 1, none⟩ = some (.slice y2.oa y2.no y2.oc)) (by kernel_rfl) (by rw [hze]; exact hS) (fun hHeld => ?_)
          rw [hze]
          clear hHeld hze gz
          refine wpAnyH_take (i := 0) (oi := { dst := some 72, op := .load 27 (.tmp 5), type := 27, pos := "l07_deltas.go:141", after := #[], guard := none }) (v := ?_) rfl (by kernel_rfl) (by kernel_rfl) (by kernel_rfl) (fun _ _ _ h => h) (Or.inl ⟨by rfl, ?_⟩) (by assumption) ?_
          rotate_left
          · intro w hSw
            (try dsimp only at hSw)
            first | (go_simp; done) | (go_simp; with_reducible rfl)
          (try simp only [Act.put, List.setIfInBounds_toArray, List.set_cons_zero, List.set_cons_succ])
          refine wpAnyH_take (i := 1) (oi := { dst := some 73, op := .load 27 (.tmp 6), type := 27, pos := "l07_deltas.go:141", after := #[{ on := 2, ground := Ground.gcOnly Departure.lateStores }], guard := none }) (v := ?_) rfl (by kernel_rfl) (by kernel_rfl) (by kernel_rfl) (fun _ _ _ h => h) (Or.inl ⟨by rfl, ?_⟩) (by assumption) ?_
          rotate_left
          · intro w hSw
            (try dsimp only at hSw)
            first | (go_simp; done) | (go_simp; with_reducible rfl)
          (try simp only [Act.put, List.setIfInBounds_toArray, List.set_cons_zero, List.set_cons_succ])
          obtain ⟨HFa, HFb, HF⟩ := hDz.out.out HXz.out HYz.out
          obtain ⟨r0, r1⟩ := pair_cells hDz.out.ra
          obtain ⟨f0, f1⟩ := pair_frozen hDz.out.ra
          have n1 : cb ≠ w.heap.size := by omega
          have n2 : cb ≠ w.heap.size + 1 := by omega
          have n3 : db ≠ w.heap.size := by omega
          have n4 : db ≠ w.heap.size + 1 := by omega
          have hSa : ((zz.setCell ⟨w.heap.size, 0, none⟩ (.slice x.va 4 x.vc)).setCell ⟨w.heap.size, 1, none⟩ (.slice x.oa x.no x.oc)).cell? ⟨cb, 0, none⟩ = some (.slice x.va 4 x.vc) ∧ ((zz.setCell ⟨w.heap.size, 0, none⟩ (.slice x.va 4 x.vc)).setCell ⟨w.heap.size, 1, none⟩ (.slice x.oa x.no x.oc)).cell? ⟨cb, 1, none⟩ = some (.slice x.oa x.no x.oc) ∧ ((zz.setCell ⟨w.heap.size, 0, none⟩ (.slice x.va 4 x.vc)).setCell ⟨w.heap.size, 1, none⟩ (.slice x.oa x.no x.oc)).cell? ⟨db, 0, none⟩ = some (.slice y2.va 4 y2.vc) ∧ ((zz.setCell ⟨w.heap.size, 0, none⟩ (.slice x.va 4 x.vc)).setCell ⟨w.heap.size, 1, none⟩ (.slice x.oa x.no x.oc)).cell? ⟨db, 1, none⟩ = some (.slice y2.oa y2.no y2.oc) := ⟨(World.cell?_of_block (a := ⟨cb, _, none⟩) (pair_other _ _ n1)).trans hS.1, (World.cell?_of_block (a := ⟨cb, _, none⟩) (pair_other _ _ n1)).trans hS.2.1, (World.cell?_of_block (a := ⟨db, _, none⟩) (pair_other _ _ n3)).trans hS.2.2.1, (World.cell?_of_block (a := ⟨db, _, none⟩) (pair_other _ _ n3)).trans hS.2.2.2⟩
          refine wpAnyH_ready (rs := [2]) (by kernel_rfl) (by simp) ?_
          refine AllReadyH.cons (o := { dst := none, op := .store 27 (.tmp 2) (.tmp 72), type := 0, pos := "l07_deltas.go:141", after := #[⟨0, .data⟩, ⟨0, .phase⟩, ⟨1, .textOnly .lateStores⟩], guard := none }) rfl (fun K hK => ?_) AllReadyH.nil
          go_simp
          refine hK.out _ _ hSa (fun hHeld3 => ?_)
          clear hK K
          (try simp only [Act.put, List.setIfInBounds_toArray, List.set_cons_zero, List.set_cons_succ])
          clear r0 r1 f0 f1
          have hrb : ((zz.setCell ⟨w.heap.size, 0, none⟩ (.slice x.va 4 x.vc)).setCell ⟨w.heap.size, 1, none⟩ (.slice x.oa x.no x.oc)).heap[w.heap.size + 1]? = _ := (pair_other _ _ (by omega)).trans hDz.out.rb
          obtain ⟨r0, r1⟩ := pair_cells hrb
          obtain ⟨f0, f1⟩ := pair_frozen hrb
          clear hrb
          have hSb : ((((zz.setCell ⟨w.heap.size, 0, none⟩ (.slice x.va 4 x.vc)).setCell ⟨w.heap.size, 1, none⟩ (.slice x.oa x.no x.oc)).setCell ⟨w.heap.size + 1, 0, none⟩ (.slice y2.va 4 y2.vc)).setCell ⟨w.heap.size + 1, 1, none⟩ (.slice y2.oa y2.no y2.oc)).cell? ⟨cb, 0, none⟩ = some (.slice x.va 4 x.vc) ∧ ((((zz.setCell ⟨w.heap.size, 0, none⟩ (.slice x.va 4 x.vc)).setCell ⟨w.heap.size, 1, none⟩ (.slice x.oa x.no x.oc)).setCell ⟨w.heap.size + 1, 0, none⟩ (.slice y2.va 4 y2.vc)).setCell ⟨w.heap.size + 1, 1, none⟩ (.slice y2.oa y2.no y2.oc)).cell? ⟨cb, 1, none⟩ = some (.slice x.oa x.no x.oc) ∧ ((((zz.setCell ⟨w.heap.size, 0, none⟩ (.slice x.va 4 x.vc)).setCell ⟨w.heap.size, 1, none⟩ (.slice x.oa x.no x.oc)).setCell ⟨w.heap.size + 1, 0, none⟩ (.slice y2.va 4 y2.vc)).setCell ⟨w.heap.size + 1, 1, none⟩ (.slice y2.oa y2.no y2.oc)).cell? ⟨db, 0, none⟩ = some (.slice y2.va 4 y2.vc) ∧ ((((zz.setCell ⟨w.heap.size, 0, none⟩ (.slice x.va 4 x.vc)).setCell ⟨w.heap.size, 1, none⟩ (.slice x.oa x.no x.oc)).setCell ⟨w.heap.size + 1, 0, none⟩ (.slice y2.va 4 y2.vc)).setCell ⟨w.heap.size + 1, 1, none⟩ (.slice y2.oa y2.no y2.oc)).cell? ⟨db, 1, none⟩ = some (.slice y2.oa y2.no y2.oc) := ⟨(World.cell?_of_block (a := ⟨cb, _, none⟩) ((pair_other _ _ n2).trans (pair_other _ _ n1))).trans hS.1, (World.cell?_of_block (a := ⟨cb, _, none⟩) ((pair_other _ _ n2).trans (pair_other _ _ n1))).trans hS.2.1, (World.cell?_of_block (a := ⟨db, _, none⟩) ((pair_other _ _ n4).trans (pair_other _ _ n3))).trans hS.2.2.1, (World.cell?_of_block (a := ⟨db, _, none⟩) ((pair_other _ _ n4).trans (pair_other _ _ n3))).trans hS.2.2.2⟩
          refine wpAnyH_ready (rs := [3]) (by kernel_rfl) (by simp) ?_
          refine AllReadyH.cons (o := { dst := none, op := .store 27 (.tmp 3) (.tmp 73), type := 0, pos := "l07_deltas.go:141", after := #[⟨1, .data⟩, ⟨2, .chain⟩, ⟨0, .phase⟩, ⟨1, .phase⟩, ⟨2, .phase⟩], guard := none }) rfl (fun K hK => ?_) AllReadyH.nil
          go_simp
          refine hK.out _ _ hSb (fun hHeld4 => ?_)
          clear hK K
          (try simp only [Act.put, List.setIfInBounds_toArray, List.set_cons_zero, List.set_cons_succ])
          refine wpAnyH_done (by kernel_rfl) ?_ _
          clear r0 r1 f0 f1 hSa hSb hS
          generalize (((zz.setCell ⟨w.heap.size, 0, none⟩ (.slice x.va 4 x.vc)).setCell ⟨w.heap.size, 1, none⟩ (.slice x.oa x.no x.oc)).setCell ⟨w.heap.size + 1, 0, none⟩ (.slice y2.va 4 y2.vc)).setCell ⟨w.heap.size + 1, 1, none⟩ (.slice y2.oa y2.no y2.oc) = wf at HFa HFb HF ⊢
          obtain ⟨p0, p1⟩ := pair_cells HFa.out
          obtain ⟨p2, p3⟩ := pair_cells HFb.out
          go_wp2
          exact bodyPost_ret (v := .tuple #[.agg #[.slice x.va 4 x.vc, .slice x.oa x.no x.oc], .agg #[.slice y2.va 4 y2.vc, .slice y2.oa y2.no y2.oc]]) (by simp [results, Try.results22, go_sem, p0, p1, p2, p3]) rfl HF.out
      · skip
        have hal : Below z0.heap.size z0 (z0.alloc (.cells #[.slice none 0 0, .slice none 0 0] 27)) := (Below.refl _ _).alloc (Nat.le_refl _) _
        have HJ8 := Lib.hid (HJ0.out.below hal)
        have HE8 := Lib.hid (boxAt (Below.refl _ (z0.alloc (.cells #[.slice none 0 0, .slice none 0 0] 27))))
        have hlz := HJ0.out.d.rd.lt
        have hlb : db < z0.heap.size := lt_of_row HJ0.out.bz
        have hSn : (z0.alloc (.cells #[.slice none 0 0, .slice none 0 0] 27)).cell? ⟨db, 0, none⟩ = some (.slice y.va 4 y.vc) ∧ (z0.alloc (.cells #[.slice none 0 0, .slice none 0 0] 27)).cell? ⟨db, 1, none⟩ = some (.slice y.oa y.no y.oc) := pair_cells HJ8.out.bz
        go_simp
        refine hK.out _ _ hSn (fun hHeld8 => ?_)
        clear hK K hal
        (try simp only [Act.put, List.setIfInBounds_toArray, List.set_cons_zero, List.set_cons_succ])
        generalize z0.alloc (.cells #[.slice none 0 0, .slice none 0 0] 27) = y8 at hHeld8 HJ8 HE8 ⊢
        have hel : z0.heap.size < y8.heap.size := lt_of_row HE8.out
        generalize z0.heap.size = eb at HE8 hlz hlb hel ⊢
        refine wpAnyH_ready (rs := [2]) (by kernel_rfl) (by simp) ?_
        refine AllReadyH.cons (o := { dst := some 65, op := .call { callee := .value (.func 92), args := #[.tmp 64], argTypes := #[94] }, type := 102, pos := "l07_deltas.go:136", after := #[⟨1, .data⟩], guard := none }) rfl (fun K hK => ?_) AllReadyH.nil
        go_simp
        go_at_call 92
        refine (rdCmd y8 B g a len cap HJ8.out.d.rd (by have := HJ8.out.d.rd.own; have := HJ8.out.d.rd.lt; omega)).mono ?_
        rintro e y9 ⟨kind, item, qty, dv, sq, hit, rfl, hg, hr⟩
        have HJ9 := Lib.hid (HJ8.out.step hg hr)
        have HE9 := Lib.hid ((hg.block eb hel (by intro e; injection e with e; omega)).trans HE8.out)
        have hel := Nat.lt_of_lt_of_le hel hg.size
        have hSn : y9.cell? ⟨db, 0, none⟩ = some (.slice y.va 4 y.vc) ∧ y9.cell? ⟨db, 1, none⟩ = some (.slice y.oa y.no y.oc) := pair_cells HJ9.out.bz
        clear hg hr
        refine hK.out _ _ hSn (fun hHeld9 => ?_)
        clear hK K
        (try simp only [Act.put, List.setIfInBounds_toArray, List.set_cons_zero, List.set_cons_succ])
        refine wpAnyH_ready (rs := [3]) (by kernel_rfl) (by simp) ?_
        refine AllReadyH.cons (o := { dst := some 66, op := .call { callee := .value (.func 91), args := #[.tmp 63, .const (Value.int IntKind.i64 0), .tmp 65], argTypes := #[27, 2, 102] }, type := 49, pos := "l07_deltas.go:136", after := #[⟨0, .data⟩, ⟨2, .data⟩, ⟨2, .chain⟩], guard := none }) rfl (fun K hK => ?_) AllReadyH.nil
        go_simp
        go_at_call 91
        refine (issueCrt y9 lo y9.heap.size y 0 kind qty dv sq item HJ9.out.cy (Nat.le_refl _) hit).mono ?_
        rintro e y10 ⟨va, nv, vc, oa, no, oc, code, rfl, hb, hcr⟩
        have HJ10 := Lib.hid (HJ9.out.below hb)
        have hll := HJ9.out.d.rd.lt
        have hgg := HJ9.out.glo
        have hlb := HJ9.out.clo
        have hlc := HJ9.out.cdb
        have hld := lt_of_row HJ9.out.bz
        have HCr := Lib.hid hcr
        have HE10 := Lib.hid ((hb.block eb hel).trans HE9.out)
        have hel := Nat.lt_of_lt_of_le hel hb.size
        have hSn : y10.cell? ⟨db, 0, none⟩ = some (.slice y.va 4 y.vc) ∧ y10.cell? ⟨db, 1, none⟩ = some (.slice y.oa y.no y.oc) := pair_cells HJ10.out.bz
        have hzi : lo ≤ y9.heap.size := by omega
        have hzs := hb.size
        have HCs : Hid (code = 0 → nv = 4 ∧ Crt y10 lo y10.heap.size va vc oa no oc 400) := fun h => ⟨(HCr.out h).1, (HCr.out h).2.more hzi (Nat.le_refl _) (by omega)⟩
        clear hb hcr HCr hzi hzs hll hgg hlb hlc hld
        refine hK.out _ _ hSn (fun hHeld10 => ?_)
        clear hK K
        (try simp only [Act.put, List.setIfInBounds_toArray, List.set_cons_zero, List.set_cons_succ])
        refine wpAnyH_take (i := 4) (oi := { dst := some 62, op := .move (.tmp 66), type := 49, pos := "l07_deltas.go:136", after := #[⟨3, .data⟩], guard := none }) (v := ?_) rfl (by kernel_rfl) (by kernel_rfl) (by kernel_rfl) (fun _ _ _ h => h) (Or.inl ⟨by rfl, ?_⟩) (by assumption) ?_
        rotate_left
        · intro w hSw
          (try dsimp only at hSw)
          first | (go_simp; done) | (go_simp; with_reducible rfl)
        (try simp only [Act.put, List.setIfInBounds_toArray, List.set_cons_zero, List.set_cons_succ])
        refine wpAnyH_take (i := 5) (oi := { dst := some 67, op := .extract (.tmp 62) 0, type := 27, pos := "l07_deltas.go:136", after := #[⟨4, .data⟩], guard := none }) (v := ?_) rfl (by kernel_rfl) (by kernel_rfl) (by kernel_rfl) (fun _ _ _ h => h) (Or.inl ⟨by rfl, ?_⟩) (by assumption) ?_
        rotate_left
        · intro w hSw
          (try dsimp only at hSw)
          first | (go_simp; done) | (go_simp; with_reducible rfl)
        (try simp only [Act.put, List.setIfInBounds_toArray, List.set_cons_zero, List.set_cons_succ])
        refine wpAnyH_take (i := 6) (oi := { dst := some 68, op := .extract (.tmp 62) 1, type := 2, pos := "l07_deltas.go:136", after := #[⟨4, .data⟩, { on := 8, ground := Ground.gcOnly Departure.lateStores }], guard := none }) (v := ?_) rfl (by kernel_rfl) (by kernel_rfl) (by kernel_rfl) (fun _ _ _ h => h) (Or.inl ⟨by rfl, ?_⟩) (by assumption) ?_
        rotate_left
        · intro w hSw
          (try dsimp only at hSw)
          first | (go_simp; done) | (go_simp; with_reducible rfl)
        (try simp only [Act.put, List.setIfInBounds_toArray, List.set_cons_zero, List.set_cons_succ])
        have hlz2 : cb < db := HJ10.out.cdb
        have hdl : db < eb := by omega
        obtain ⟨r0, r1⟩ := pair_cells HE10.out
        obtain ⟨f0, f1⟩ := pair_frozen HE10.out
        have hko : ∀ j, j ≠ eb → ((y10.setCell ⟨eb, 0, none⟩ (.slice va nv vc)).setCell ⟨eb, 1, none⟩ (.slice oa no oc)).heap[j]? = y10.heap[j]? := fun j hj => pair_other _ _ hj
        have hzz := pair_size y10 eb (.slice va nv vc) (.slice oa no oc)
        have HB2 : Hid (TgI w ((y10.setCell ⟨eb, 0, none⟩ (.slice va nv vc)).setCell ⟨eb, 1, none⟩ (.slice oa no oc)) B g a len cap lo cb db x y) := by
          have h := HJ10.out
          have h1 := h.glo
          have h2 := h.clo
          have hgl := h.d.glt
          have hB := h.d.rd.own
          refine ⟨⟨(hko _ (by omega)).trans h.d.ra, (hko _ (by omega)).trans h.d.rb, h.d.bel.trans ((below_set2 y10 eb 0 1 _ _).mono (by omega)), h.d.rd.kept fun k hk' => hko k (by omega), hgl⟩, (hko _ (by omega)).trans h.bx, (hko _ (by omega)).trans h.bz, ?_, ?_, h1, h2, h.cdb⟩
          · rw [hzz]
            exact Crt.other h.cx HE10.out fun j _ _ hne => hko j hne
          · rw [hzz]
            exact Crt.other h.cy HE10.out fun j _ _ hne => hko j hne
        have HC2 : Hid (code = 0 → nv = 4 ∧ Crt ((y10.setCell ⟨eb, 0, none⟩ (.slice va nv vc)).setCell ⟨eb, 1, none⟩ (.slice oa no oc)) lo ((y10.setCell ⟨eb, 0, none⟩ (.slice va nv vc)).setCell ⟨eb, 1, none⟩ (.slice oa no oc)).heap.size va vc oa no oc 400) := fun h => ⟨(HCs.out h).1, by rw [hzz]; exact Crt.other (HCs.out h).2 HE10.out fun j _ _ hne => hko j hne⟩
        have HE2 : Hid (((y10.setCell ⟨eb, 0, none⟩ (.slice va nv vc)).setCell ⟨eb, 1, none⟩ (.slice oa no oc)).heap[eb]? = some (.cells #[.slice va nv vc, .slice oa no oc] 27 (0, 0))) := pair_set _ _ HE10.out
        clear hko hzz HCs
        have hSn : ((y10.setCell ⟨eb, 0, none⟩ (.slice va nv vc)).setCell ⟨eb, 1, none⟩ (.slice oa no oc)).cell? ⟨db, 0, none⟩ = some (.slice y.va 4 y.vc) ∧ ((y10.setCell ⟨eb, 0, none⟩ (.slice va nv vc)).setCell ⟨eb, 1, none⟩ (.slice oa no oc)).cell? ⟨db, 1, none⟩ = some (.slice y.oa y.no y.oc) := pair_cells HB2.out.bz
        refine wpAnyH_ready (rs := [8]) (by kernel_rfl) (by simp) ?_
        refine AllReadyH.cons (o := { dst := none, op := .store 27 (.tmp 11) (.tmp 67), type := 0, pos := "l07_deltas.go:136", after := #[⟨7, .data⟩, ⟨5, .data⟩, ⟨3, .chain⟩, ⟨0, .phase⟩, ⟨1, .phase⟩, ⟨2, .phase⟩, ⟨3, .phase⟩, ⟨4, .phase⟩, ⟨5, .phase⟩, ⟨6, .textOnly .lateStores⟩, ⟨7, .phase⟩], guard := none }) rfl (fun K hK => ?_) AllReadyH.nil
        go_simp
        refine hK.out _ _ hSn (fun hHeld11 => ?_)
        clear hK K
        (try simp only [Act.put, List.setIfInBounds_toArray, List.set_cons_zero, List.set_cons_succ])
        refine wpAnyH_take (i := 9) (oi := { dst := some 12, op := .assign (.tmp 68), type := 2, pos := "l07_deltas.go:136", after := #[⟨6, .data⟩, ⟨8, .chain⟩, ⟨0, .phase⟩, ⟨1, .phase⟩, ⟨2, .phase⟩, ⟨3, .phase⟩, ⟨4, .phase⟩, ⟨5, .phase⟩, ⟨6, .phase⟩, ⟨7, .phase⟩, ⟨8, .phase⟩], guard := none }) (v := ?_) rfl (by kernel_rfl) (by kernel_rfl) (by kernel_rfl) (fun _ _ _ h => h) (Or.inl ⟨by rfl, ?_⟩) (by assumption) ?_
        rotate_left
        · intro w hSw
          (try dsimp only at hSw)
          first | (go_simp; done) | (go_simp; with_reducible rfl)
        (try simp only [Act.put, List.setIfInBounds_toArray, List.set_cons_zero, List.set_cons_succ])
        refine wpAnyH_done (by kernel_rfl) ?_ _
        clear hSn r0 r1 f0 f1 HE10
        generalize (y10.setCell ⟨eb, 0, none⟩ (.slice va nv vc)).setCell ⟨eb, 1, none⟩ (.slice oa no oc) = w8 at HB2 HC2 HE2 ⊢
        by_cases hcode : code = 0
        rotate_left
        · have hci : ((code == 0) = false) := by simpa using hcode
          have hcd : ¬ (code = 0) := hcode
          clear HC2 HE2
          go_upto_region 17 with fail
          obtain ⟨zz, hze⟩ : ∃ z, w8.drew = z := ⟨_, rfl⟩
          have hS : w8.drew.cell? ⟨cb, 0, none⟩ = some (.slice x.va 4 x.vc) ∧ w8.drew.cell? ⟨cb, 1, none⟩ = some (.slice x.oa x.no x.oc) ∧ w8.drew.cell? ⟨db, 0, none⟩ = some (.slice y.va 4 y.vc) ∧ w8.drew.cell? ⟨db, 1, none⟩ = some (.slice y.oa y.no y.oc) := ⟨(pair_cells HB2.out.bx).1, (pair_cells HB2.out.bx).2, (pair_cells HB2.out.bz).1, (pair_cells HB2.out.bz).2⟩
          have gz : Below w8.heap.size w8 zz := by rw [← hze]; exact ⟨rfl, rfl, rfl, Nat.le_refl _, fun _ _ => rfl⟩
          have HIz := Lib.hid (HB2.out.below gz)
          have hgl := HIz.out.d.glt
          have hDz : Hid (D3 w zz #[.slice none 0 0, .slice none 0 0] #[.slice none 0 0, .slice none 0 0]) := ⟨HIz.out.d.ra, HIz.out.d.rb, HIz.out.d.bel⟩
          have HXz := Lib.hid ((CrtC.weak HIz.out.cx).more (lo' := w.heap.size) (hi' := zz.heap.size) (by omega) (Nat.le_refl _))
          have HYz := Lib.hid ((CrtC.weak HIz.out.cy).more (lo' := w.heap.size) (hi' := zz.heap.size) (by omega) (Nat.le_refl _))
          rw [hze] at hS
          refine wp_region_held_drew (S := fun w' => w'.cell? ⟨cb, 0, none⟩ = some (.slice x.va 4 x.vc) ∧ w'.cell? ⟨cb, 1, none⟩ = some (.slice x.oa x.no x.oc) ∧ w'.cell? ⟨db, 0, none⟩ = some (.slice y.va 4 y.vc) ∧ w'.cell? ⟨db, 1, none⟩ = some (.slice y.oa y.no y.oc)) (by kernel_rfl) (by rw [hze]; exact hS) (fun hHeld => ?_)
          rw [hze]
          clear hHeld hze gz
          refine wpAnyH_take (i := 0) (oi := { dst := some 72, op := .load 27 (.tmp 5), type := 27, pos := "l07_deltas.go:141", after := #[], guard := none }) (v := ?_) rfl (by kernel_rfl) (by kernel_rfl) (by kernel_rfl) (fun _ _ _ h => h) (Or.inl ⟨by rfl, ?_⟩) (by assumption) ?_
          rotate_left
          · intro w hSw
            (try dsimp only at hSw)
            first | (go_simp; done) | (go_simp; with_reducible rfl)
          (try simp only [Act.put, List.setIfInBounds_toArray, List.set_cons_zero, List.set_cons_succ])
          refine wpAnyH_take (i := 1) (oi := { dst := some 73, op := .load 27 (.tmp 6), type := 27, pos := "l07_deltas.go:141", after := #[{ on := 2, ground := Ground.gcOnly Departure.lateStores }], guard := none }) (v := ?_) rfl (by kernel_rfl) (by kernel_rfl) (by kernel_rfl) (fun _ _ _ h => h) (Or.inl ⟨by rfl, ?_⟩) (by assumption) ?_
          rotate_left
          · intro w hSw
            (try dsimp only at hSw)
            first | (go_simp; done) | (go_simp; with_reducible rfl)
          (try simp only [Act.put, List.setIfInBounds_toArray, List.set_cons_zero, List.set_cons_succ])
          obtain ⟨HFa, HFb, HF⟩ := hDz.out.out HXz.out HYz.out
          obtain ⟨r0, r1⟩ := pair_cells hDz.out.ra
          obtain ⟨f0, f1⟩ := pair_frozen hDz.out.ra
          have n1 : cb ≠ w.heap.size := by omega
          have n2 : cb ≠ w.heap.size + 1 := by omega
          have n3 : db ≠ w.heap.size := by omega
          have n4 : db ≠ w.heap.size + 1 := by omega
          have hSa : ((zz.setCell ⟨w.heap.size, 0, none⟩ (.slice x.va 4 x.vc)).setCell ⟨w.heap.size, 1, none⟩ (.slice x.oa x.no x.oc)).cell? ⟨cb, 0, none⟩ = some (.slice x.va 4 x.vc) ∧ ((zz.setCell ⟨w.heap.size, 0, none⟩ (.slice x.va 4 x.vc)).setCell ⟨w.heap.size, 1, none⟩ (.slice x.oa x.no x.oc)).cell? ⟨cb, 1, none⟩ = some (.slice x.oa x.no x.oc) ∧ ((zz.setCell ⟨w.heap.size, 0, none⟩ (.slice x.va 4 x.vc)).setCell ⟨w.heap.size, 1, none⟩ (.slice x.oa x.no x.oc)).cell? ⟨db, 0, none⟩ = some (.slice y.va 4 y.vc) ∧ ((zz.setCell ⟨w.heap.size, 0, none⟩ (.slice x.va 4 x.vc)).setCell ⟨w.heap.size, 1, none⟩ (.slice x.oa x.no x.oc)).cell? ⟨db, 1, none⟩ = some (.slice y.oa y.no y.oc) := ⟨(World.cell?_of_block (a := ⟨cb, _, none⟩) (pair_other _ _ n1)).trans hS.1, (World.cell?_of_block (a := ⟨cb, _, none⟩) (pair_other _ _ n1)).trans hS.2.1, (World.cell?_of_block (a := ⟨db, _, none⟩) (pair_other _ _ n3)).trans hS.2.2.1, (World.cell?_of_block (a := ⟨db, _, none⟩) (pair_other _ _ n3)).trans hS.2.2.2⟩
          refine wpAnyH_ready (rs := [2]) (by kernel_rfl) (by simp) ?_
          refine AllReadyH.cons (o := { dst := none, op := .store 27 (.tmp 2) (.tmp 72), type := 0, pos := "l07_deltas.go:141", after := #[⟨0, .data⟩, ⟨0, .phase⟩, ⟨1, .textOnly .lateStores⟩], guard := none }) rfl (fun K hK => ?_) AllReadyH.nil
          go_simp
          refine hK.out _ _ hSa (fun hHeld3 => ?_)
          clear hK K
          (try simp only [Act.put, List.setIfInBounds_toArray, List.set_cons_zero, List.set_cons_succ])
          clear r0 r1 f0 f1
          have hrb : ((zz.setCell ⟨w.heap.size, 0, none⟩ (.slice x.va 4 x.vc)).setCell ⟨w.heap.size, 1, none⟩ (.slice x.oa x.no x.oc)).heap[w.heap.size + 1]? = _ := (pair_other _ _ (by omega)).trans hDz.out.rb
          obtain ⟨r0, r1⟩ := pair_cells hrb
          obtain ⟨f0, f1⟩ := pair_frozen hrb
          clear hrb
          have hSb : ((((zz.setCell ⟨w.heap.size, 0, none⟩ (.slice x.va 4 x.vc)).setCell ⟨w.heap.size, 1, none⟩ (.slice x.oa x.no x.oc)).setCell ⟨w.heap.size + 1, 0, none⟩ (.slice y.va 4 y.vc)).setCell ⟨w.heap.size + 1, 1, none⟩ (.slice y.oa y.no y.oc)).cell? ⟨cb, 0, none⟩ = some (.slice x.va 4 x.vc) ∧ ((((zz.setCell ⟨w.heap.size, 0, none⟩ (.slice x.va 4 x.vc)).setCell ⟨w.heap.size, 1, none⟩ (.slice x.oa x.no x.oc)).setCell ⟨w.heap.size + 1, 0, none⟩ (.slice y.va 4 y.vc)).setCell ⟨w.heap.size + 1, 1, none⟩ (.slice y.oa y.no y.oc)).cell? ⟨cb, 1, none⟩ = some (.slice x.oa x.no x.oc) ∧ ((((zz.setCell ⟨w.heap.size, 0, none⟩ (.slice x.va 4 x.vc)).setCell ⟨w.heap.size, 1, none⟩ (.slice x.oa x.no x.oc)).setCell ⟨w.heap.size + 1, 0, none⟩ (.slice y.va 4 y.vc)).setCell ⟨w.heap.size + 1, 1, none⟩ (.slice y.oa y.no y.oc)).cell? ⟨db, 0, none⟩ = some (.slice y.va 4 y.vc) ∧ ((((zz.setCell ⟨w.heap.size, 0, none⟩ (.slice x.va 4 x.vc)).setCell ⟨w.heap.size, 1, none⟩ (.slice x.oa x.no x.oc)).setCell ⟨w.heap.size + 1, 0, none⟩ (.slice y.va 4 y.vc)).setCell ⟨w.heap.size + 1, 1, none⟩ (.slice y.oa y.no y.oc)).cell? ⟨db, 1, none⟩ = some (.slice y.oa y.no y.oc) := ⟨(World.cell?_of_block (a := ⟨cb, _, none⟩) ((pair_other _ _ n2).trans (pair_other _ _ n1))).trans hS.1, (World.cell?_of_block (a := ⟨cb, _, none⟩) ((pair_other _ _ n2).trans (pair_other _ _ n1))).trans hS.2.1, (World.cell?_of_block (a := ⟨db, _, none⟩) ((pair_other _ _ n4).trans (pair_other _ _ n3))).trans hS.2.2.1, (World.cell?_of_block (a := ⟨db, _, none⟩) ((pair_other _ _ n4).trans (pair_other _ _ n3))).trans hS.2.2.2⟩
          refine wpAnyH_ready (rs := [3]) (by kernel_rfl) (by simp) ?_
          refine AllReadyH.cons (o := { dst := none, op := .store 27 (.tmp 3) (.tmp 73), type := 0, pos := "l07_deltas.go:141", after := #[⟨1, .data⟩, ⟨2, .chain⟩, ⟨0, .phase⟩, ⟨1, .phase⟩, ⟨2, .phase⟩], guard := none }) rfl (fun K hK => ?_) AllReadyH.nil
          go_simp
          refine hK.out _ _ hSb (fun hHeld4 => ?_)
          clear hK K
          (try simp only [Act.put, List.setIfInBounds_toArray, List.set_cons_zero, List.set_cons_succ])
          refine wpAnyH_done (by kernel_rfl) ?_ _
          clear r0 r1 f0 f1 hSa hSb hS
          generalize (((zz.setCell ⟨w.heap.size, 0, none⟩ (.slice x.va 4 x.vc)).setCell ⟨w.heap.size, 1, none⟩ (.slice x.oa x.no x.oc)).setCell ⟨w.heap.size + 1, 0, none⟩ (.slice y.va 4 y.vc)).setCell ⟨w.heap.size + 1, 1, none⟩ (.slice y.oa y.no y.oc) = wf at HFa HFb HF ⊢
          obtain ⟨p0, p1⟩ := pair_cells HFa.out
          obtain ⟨p2, p3⟩ := pair_cells HFb.out
          go_wp2
          exact bodyPost_ret (v := .tuple #[.agg #[.slice x.va 4 x.vc, .slice x.oa x.no x.oc], .agg #[.slice y.va 4 y.vc, .slice y.oa y.no y.oc]]) (by simp [results, Try.results22, go_sem, p0, p1, p2, p3]) rfl HF.out
        obtain ⟨e4, hcw⟩ := HC2.out hcode
        subst e4
        subst hcode
        have HMw := Lib.hid hcw
        clear hcw HC2
        obtain ⟨y2, hy2⟩ : ∃ y2 : CartC, y2 = ⟨va, vc, oa, no, oc⟩ := ⟨_, rfl⟩
        have HMc : Hid (CrtC w8 lo w8.heap.size y2) := by rw [hy2]; exact HMw
        clear HMw
        have e1 : va = y2.va := by rw [hy2]
        have e2 : vc = y2.vc := by rw [hy2]
        have e3 : oa = y2.oa := by rw [hy2]
        have e5 : no = y2.no := by rw [hy2]
        have e6 : oc = y2.oc := by rw [hy2]
        subst e1 e2 e3 e5 e6
        clear hy2
        have HB9 := Lib.hid (HB2.out.turn y2 HMc.out)
        obtain ⟨m0, m1⟩ := pair_cells HE2.out
        obtain ⟨r0, r1⟩ := pair_cells HB2.out.bz
        obtain ⟨f0, f1⟩ := pair_frozen HB2.out.bz
        go_upto_region 17 with fail
        clear m0 m1 r0 r1 f0 f1 HB2 HE2 HMc
        generalize (w8.setCell ⟨db, 0, none⟩ (.slice y2.va 4 y2.vc)).setCell ⟨db, 1, none⟩ (.slice y2.oa y2.no y2.oc) = w9 at HB9 ⊢
        go_upto_region 17 with fail
        obtain ⟨zz, hze⟩ : ∃ z, w9.drew = z := ⟨_, rfl⟩
        have hS : w9.drew.cell? ⟨cb, 0, none⟩ = some (.slice x.va 4 x.vc) ∧ w9.drew.cell? ⟨cb, 1, none⟩ = some (.slice x.oa x.no x.oc) ∧ w9.drew.cell? ⟨db, 0, none⟩ = some (.slice y2.va 4 y2.vc) ∧ w9.drew.cell? ⟨db, 1, none⟩ = some (.slice y2.oa y2.no y2.oc) := ⟨(pair_cells HB9.out.bx).1, (pair_cells HB9.out.bx).2, (pair_cells HB9.out.bz).1, (pair_cells HB9.out.bz).2⟩
        have gz : Below w9.heap.size w9 zz := by rw [← hze]; exact ⟨rfl, rfl, rfl, Nat.le_refl _, fun _ _ => rfl⟩
        have HIz := Lib.hid (HB9.out.below gz)
        have hgl := HIz.out.d.glt
        have hDz : Hid (D3 w zz #[.slice none 0 0, .slice none 0 0] #[.slice none 0 0, .slice none 0 0]) := ⟨HIz.out.d.ra, HIz.out.d.rb, HIz.out.d.bel⟩
        have HXz := Lib.hid ((CrtC.weak HIz.out.cx).more (lo' := w.heap.size) (hi' := zz.heap.size) (by omega) (Nat.le_refl _))
        have HYz := Lib.hid ((CrtC.weak HIz.out.cy).more (lo' := w.heap.size) (hi' := zz.heap.size) (by omega) (Nat.le_refl _))
        rw [hze] at hS
        refine wp_region_held_drew (S := fun w' => w'.cell? ⟨cb, 0, none⟩ = some (.slice x.va 4 x.vc) ∧ w'.cell? ⟨cb, 1, none⟩ = some (.slice x.oa x.no x.oc) ∧ w'.cell? ⟨db, 0, none⟩ = some (.slice y2.va 4 y2.vc) ∧ w'.cell? ⟨db, 1, none⟩ = some (.slice y2.oa y2.no y2.oc)) (by kernel_rfl) (by rw [hze]; exact hS) (fun hHeld => ?_)
        rw [hze]
        clear hHeld hze gz
        refine wpAnyH_take (i := 0) (oi := { dst := some 72, op := .load 27 (.tmp 5), type := 27, pos := "l07_deltas.go:141", after := #[], guard := none }) (v := ?_) rfl (by kernel_rfl) (by kernel_rfl) (by kernel_rfl) (fun _ _ _ h => h) (Or.inl ⟨by rfl, ?_⟩) (by assumption) ?_
        rotate_left
        · intro w hSw
          (try dsimp only at hSw)
          first | (go_simp; done) | (go_simp; with_reducible rfl)
        (try simp only [Act.put, List.setIfInBounds_toArray, List.set_cons_zero, List.set_cons_succ])
        refine wpAnyH_take (i := 1) (oi := { dst := some 73, op := .load 27 (.tmp 6), type := 27, pos := "l07_deltas.go:141", after := #[{ on := 2, ground := Ground.gcOnly Departure.lateStores }], guard := none }) (v := ?_) rfl (by kernel_rfl) (by kernel_rfl) (by kernel_rfl) (fun _ _ _ h => h) (Or.inl ⟨by rfl, ?_⟩) (by assumption) ?_
        rotate_left
        · intro w hSw
          (try dsimp only at hSw)
          first | (go_simp; done) | (go_simp; with_reducible rfl)
        (try simp only [Act.put, List.setIfInBounds_toArray, List.set_cons_zero, List.set_cons_succ])
        obtain ⟨HFa, HFb, HF⟩ := hDz.out.out HXz.out HYz.out
        obtain ⟨r0, r1⟩ := pair_cells hDz.out.ra
        obtain ⟨f0, f1⟩ := pair_frozen hDz.out.ra
        have n1 : cb ≠ w.heap.size := by omega
        have n2 : cb ≠ w.heap.size + 1 := by omega
        have n3 : db ≠ w.heap.size := by omega
        have n4 : db ≠ w.heap.size + 1 := by omega
        have hSa : ((zz.setCell ⟨w.heap.size, 0, none⟩ (.slice x.va 4 x.vc)).setCell ⟨w.heap.size, 1, none⟩ (.slice x.oa x.no x.oc)).cell? ⟨cb, 0, none⟩ = some (.slice x.va 4 x.vc) ∧ ((zz.setCell ⟨w.heap.size, 0, none⟩ (.slice x.va 4 x.vc)).setCell ⟨w.heap.size, 1, none⟩ (.slice x.oa x.no x.oc)).cell? ⟨cb, 1, none⟩ = some (.slice x.oa x.no x.oc) ∧ ((zz.setCell ⟨w.heap.size, 0, none⟩ (.slice x.va 4 x.vc)).setCell ⟨w.heap.size, 1, none⟩ (.slice x.oa x.no x.oc)).cell? ⟨db, 0, none⟩ = some (.slice y2.va 4 y2.vc) ∧ ((zz.setCell ⟨w.heap.size, 0, none⟩ (.slice x.va 4 x.vc)).setCell ⟨w.heap.size, 1, none⟩ (.slice x.oa x.no x.oc)).cell? ⟨db, 1, none⟩ = some (.slice y2.oa y2.no y2.oc) := ⟨(World.cell?_of_block (a := ⟨cb, _, none⟩) (pair_other _ _ n1)).trans hS.1, (World.cell?_of_block (a := ⟨cb, _, none⟩) (pair_other _ _ n1)).trans hS.2.1, (World.cell?_of_block (a := ⟨db, _, none⟩) (pair_other _ _ n3)).trans hS.2.2.1, (World.cell?_of_block (a := ⟨db, _, none⟩) (pair_other _ _ n3)).trans hS.2.2.2⟩
        refine wpAnyH_ready (rs := [2]) (by kernel_rfl) (by simp) ?_
        refine AllReadyH.cons (o := { dst := none, op := .store 27 (.tmp 2) (.tmp 72), type := 0, pos := "l07_deltas.go:141", after := #[⟨0, .data⟩, ⟨0, .phase⟩, ⟨1, .textOnly .lateStores⟩], guard := none }) rfl (fun K hK => ?_) AllReadyH.nil
        go_simp
        refine hK.out _ _ hSa (fun hHeld3 => ?_)
        clear hK K
        (try simp only [Act.put, List.setIfInBounds_toArray, List.set_cons_zero, List.set_cons_succ])
        clear r0 r1 f0 f1
        have hrb : ((zz.setCell ⟨w.heap.size, 0, none⟩ (.slice x.va 4 x.vc)).setCell ⟨w.heap.size, 1, none⟩ (.slice x.oa x.no x.oc)).heap[w.heap.size + 1]? = _ := (pair_other _ _ (by omega)).trans hDz.out.rb
        obtain ⟨r0, r1⟩ := pair_cells hrb
        obtain ⟨f0, f1⟩ := pair_frozen hrb
        clear hrb
        have hSb : ((((zz.setCell ⟨w.heap.size, 0, none⟩ (.slice x.va 4 x.vc)).setCell ⟨w.heap.size, 1, none⟩ (.slice x.oa x.no x.oc)).setCell ⟨w.heap.size + 1, 0, none⟩ (.slice y2.va 4 y2.vc)).setCell ⟨w.heap.size + 1, 1, none⟩ (.slice y2.oa y2.no y2.oc)).cell? ⟨cb, 0, none⟩ = some (.slice x.va 4 x.vc) ∧ ((((zz.setCell ⟨w.heap.size, 0, none⟩ (.slice x.va 4 x.vc)).setCell ⟨w.heap.size, 1, none⟩ (.slice x.oa x.no x.oc)).setCell ⟨w.heap.size + 1, 0, none⟩ (.slice y2.va 4 y2.vc)).setCell ⟨w.heap.size + 1, 1, none⟩ (.slice y2.oa y2.no y2.oc)).cell? ⟨cb, 1, none⟩ = some (.slice x.oa x.no x.oc) ∧ ((((zz.setCell ⟨w.heap.size, 0, none⟩ (.slice x.va 4 x.vc)).setCell ⟨w.heap.size, 1, none⟩ (.slice x.oa x.no x.oc)).setCell ⟨w.heap.size + 1, 0, none⟩ (.slice y2.va 4 y2.vc)).setCell ⟨w.heap.size + 1, 1, none⟩ (.slice y2.oa y2.no y2.oc)).cell? ⟨db, 0, none⟩ = some (.slice y2.va 4 y2.vc) ∧ ((((zz.setCell ⟨w.heap.size, 0, none⟩ (.slice x.va 4 x.vc)).setCell ⟨w.heap.size, 1, none⟩ (.slice x.oa x.no x.oc)).setCell ⟨w.heap.size + 1, 0, none⟩ (.slice y2.va 4 y2.vc)).setCell ⟨w.heap.size + 1, 1, none⟩ (.slice y2.oa y2.no y2.oc)).cell? ⟨db, 1, none⟩ = some (.slice y2.oa y2.no y2.oc) := ⟨(World.cell?_of_block (a := ⟨cb, _, none⟩) ((pair_other _ _ n2).trans (pair_other _ _ n1))).trans hS.1, (World.cell?_of_block (a := ⟨cb, _, none⟩) ((pair_other _ _ n2).trans (pair_other _ _ n1))).trans hS.2.1, (World.cell?_of_block (a := ⟨db, _, none⟩) ((pair_other _ _ n4).trans (pair_other _ _ n3))).trans hS.2.2.1, (World.cell?_of_block (a := ⟨db, _, none⟩) ((pair_other _ _ n4).trans (pair_other _ _ n3))).trans hS.2.2.2⟩
        refine wpAnyH_ready (rs := [3]) (by kernel_rfl) (by simp) ?_
        refine AllReadyH.cons (o := { dst := none, op := .store 27 (.tmp 3) (.tmp 73), type := 0, pos := "l07_deltas.go:141", after := #[⟨1, .data⟩, ⟨2, .chain⟩, ⟨0, .phase⟩, ⟨1, .phase⟩, ⟨2, .phase⟩], guard := none }) rfl (fun K hK => ?_) AllReadyH.nil
        go_simp
        refine hK.out _ _ hSb (fun hHeld4 => ?_)
        clear hK K
        (try simp only [Act.put, List.setIfInBounds_toArray, List.set_cons_zero, List.set_cons_succ])
        refine wpAnyH_done (by kernel_rfl) ?_ _
        clear r0 r1 f0 f1 hSa hSb hS
        generalize (((zz.setCell ⟨w.heap.size, 0, none⟩ (.slice x.va 4 x.vc)).setCell ⟨w.heap.size, 1, none⟩ (.slice x.oa x.no x.oc)).setCell ⟨w.heap.size + 1, 0, none⟩ (.slice y2.va 4 y2.vc)).setCell ⟨w.heap.size + 1, 1, none⟩ (.slice y2.oa y2.no y2.oc) = wf at HFa HFb HF ⊢
        obtain ⟨p0, p1⟩ := pair_cells HFa.out
        obtain ⟨p2, p3⟩ := pair_cells HFb.out
        go_wp2
        exact bodyPost_ret (v := .tuple #[.agg #[.slice x.va 4 x.vc, .slice x.oa x.no x.oc], .agg #[.slice y2.va 4 y2.vc, .slice y2.oa y2.no y2.oc]]) (by simp [results, Try.results22, go_sem, p0, p1, p2, p3]) rfl HF.out
    have hki : (0 : Int) < (k : Int) := by omega
    obtain ⟨q0, q1⟩ := pair_cells HIr.out.bx
    go_upto_region 9 with fail
    clear q0 q1
    obtain ⟨zs, m, hm, hov, hop, hcv, hco, hbn⟩ := HIr.out.cx
    have hm1 : 0 < m.length := by omega
    have hml : m.length ≤ 400 := hbn.most
    obtain ⟨ob, oo, hoa, hob, _⟩ := hop.ops.2 0 (by omega)
    have HMO : Hid (∀ i, i < m.length → OpAt wr ob (oo + i * 8) (atOp m i)) := fun i hi => by
      obtain ⟨b2, o2, e2, _, h2⟩ := hop.ops.2 i hi
      rw [hoa] at e2
      injection e2 with e2
      injection e2 with e2 e3
      subst e2 e3
      exact h2
    have hobl : ob < wr.heap.size := hob
    have hgo : ob ≠ g := by
      obtain ⟨g1, o1, cs, e1, h1, _⟩ := hop.2 (by omega)
      rw [hoa] at e1
      injection e1 with e1
      injection e1 with e1
      have := HIr.out.glo
      omega
    have Hoa := Lib.hid hoa
    have Hm := Lib.hid hm
    clear hov hop hcv hco hbn hob hoa hm
    obtain ⟨z0, hz0⟩ : ∃ z, wr.drew = z := ⟨_, rfl⟩
    have gz : Below wr.heap.size wr z0 := by rw [← hz0]; exact ⟨rfl, rfl, rfl, Nat.le_refl _, fun _ _ => rfl⟩
    have HJ0 := Lib.hid (HIr.out.below gz)
    have HMO0 : Hid (∀ i, i < m.length → OpAt z0 ob (oo + i * 8) (atOp m i)) := fun i hi => (HMO.out i hi).kept (gz.block _ hobl)
    have hob0 : ob < z0.heap.size := Nat.lt_of_lt_of_le hobl gz.size
    clear HIr gz HMO hobl
    have hS0 : (z0.cell? ⟨cb, 1, none⟩ = some (.slice (some ⟨ob, oo, none⟩) m.length x.oc)) ∧ ∀ i, i < m.length → OpAt z0 ob (oo + i * 8) (atOp m i) := ⟨by have := (pair_cells HJ0.out.bx).2; rw [Hoa.out, Hm.out] at this; exact this, HMO0.out⟩
    refine wp_region_held_drew (S := fun w' => (w'.cell? ⟨cb, 1, none⟩ = some (.slice (some ⟨ob, oo, none⟩) m.length x.oc)) ∧ ∀ i, i < m.length → OpAt w' ob (oo + i * 8) (atOp m i)) (by kernel_rfl) (by rw [hz0]; exact hS0) (fun hHeld => ?_)
    rw [hz0]
    clear hHeld hz0
    refine wpAnyH_take (i := 0) (oi := { dst := some 38, op := .fieldAddr 27 (.tmp 5) 1, type := 0, pos := "l07_deltas.go:129", after := #[], guard := none }) (v := ?_) rfl (by kernel_rfl) (by kernel_rfl) (by kernel_rfl) (fun _ _ _ h => h) (Or.inl ⟨by rfl, ?_⟩) (by assumption) ?_
    rotate_left
    · intro w hSw
      (try dsimp only at hSw)
      first | (go_simp; done) | (go_simp; with_reducible rfl)
    (try simp only [Act.put, List.setIfInBounds_toArray, List.set_cons_zero, List.set_cons_succ])
    refine wpAnyH_take (i := 1) (oi := { dst := some 39, op := .load 25 (.tmp 38), type := 25, pos := "l07_deltas.go:129", after := #[⟨0, .data⟩], guard := none }) (v := ?_) rfl (by kernel_rfl) (by kernel_rfl) (by kernel_rfl) (fun _ _ _ h => h) (Or.inl ⟨by rfl, ?_⟩) (by assumption) ?_
    rotate_left
    · intro w hSw
      (try dsimp only at hSw)
      first | (go_simp; done) | (go_simp; with_reducible rfl)
    (try simp only [Act.put, List.setIfInBounds_toArray, List.set_cons_zero, List.set_cons_succ])
    refine wpAnyH_take (i := 2) (oi := { dst := some 40, op := .move (.tmp 4), type := 94, pos := "l07_deltas.go:129", after := #[], guard := none }) (v := ?_) rfl (by kernel_rfl) (by kernel_rfl) (by kernel_rfl) (fun _ _ _ h => h) (Or.inl ⟨by rfl, ?_⟩) (by assumption) ?_
    rotate_left
    · intro w hSw
      (try dsimp only at hSw)
      first | (go_simp; done) | (go_simp; with_reducible rfl)
    (try simp only [Act.put, List.setIfInBounds_toArray, List.set_cons_zero, List.set_cons_succ])
    refine wpAnyH_take (i := 3) (oi := { dst := some 41, op := .fieldAddr 27 (.tmp 5) 1, type := 0, pos := "l07_deltas.go:129", after := #[], guard := none }) (v := ?_) rfl (by kernel_rfl) (by kernel_rfl) (by kernel_rfl) (fun _ _ _ h => h) (Or.inl ⟨by rfl, ?_⟩) (by assumption) ?_
    rotate_left
    · intro w hSw
      (try dsimp only at hSw)
      first | (go_simp; done) | (go_simp; with_reducible rfl)
    (try simp only [Act.put, List.setIfInBounds_toArray, List.set_cons_zero, List.set_cons_succ])
    refine wpAnyH_take (i := 4) (oi := { dst := some 42, op := .load 25 (.tmp 41), type := 25, pos := "l07_deltas.go:129", after := #[⟨3, .data⟩], guard := none }) (v := ?_) rfl (by kernel_rfl) (by kernel_rfl) (by kernel_rfl) (fun _ _ _ h => h) (Or.inl ⟨by rfl, ?_⟩) (by assumption) ?_
    rotate_left
    · intro w hSw
      (try dsimp only at hSw)
      first | (go_simp; done) | (go_simp; with_reducible rfl)
    (try simp only [Act.put, List.setIfInBounds_toArray, List.set_cons_zero, List.set_cons_succ])
    refine wpAnyH_take (i := 5) (oi := { dst := some 43, op := .call { callee := .builtin .len, args := #[.tmp 42], argTypes := #[25] }, type := 3, pos := "l07_deltas.go:129", after := #[⟨4, .data⟩], guard := none }) (v := ?_) rfl (by kernel_rfl) (by kernel_rfl) (by kernel_rfl) (fun _ _ _ h => h) (Or.inl ⟨by rfl, ?_⟩) (by assumption) ?_
    rotate_left
    · intro w hSw
      (try dsimp only at hSw)
      first | (go_simp; done) | (go_simp; with_reducible rfl)
    (try simp only [Act.put, List.setIfInBounds_toArray, List.set_cons_zero, List.set_cons_succ])
    refine wpAnyH_ready (rs := [6, 9]) (by kernel_rfl) (by simp) ?_
    refine AllReadyH.cons (o := { dst := some 44, op := .call { callee := .value (.func 90), args := #[.tmp 40, .tmp 43], argTypes := #[94, 3] }, type := 3, pos := "l07_deltas.go:129", after := #[⟨2, .data⟩, ⟨5, .data⟩], guard := none }) rfl (fun K hK => ?_) (AllReadyH.cons (o := { dst := some 8, op := .alloc 34, type := 0, pos := "l07_deltas.go:129", after := #[], guard := none }) rfl (fun K hK => ?_) AllReadyH.nil)
    · skip
      go_simp
      go_at_call 90
      refine (belowI z0 B g a len cap HJ0.out.d.rd (m.length : Int) (by omega) (by omega)).mono ?_
      rintro e y12 ⟨v, hv, rfl, hg, hr⟩
      have hvm : v < m.length := by omega
      have HJ12 := Lib.hid (HJ0.out.step hg hr)
      have HM12 : Hid (∀ i, i < m.length → OpAt y12 ob (oo + i * 8) (atOp m i)) := fun i hi => (HMO0.out i hi).kept (hg.block _ hob0 (by intro e; injection e with e; exact hgo e))
      have hob0 : ob < y12.heap.size := Nat.lt_of_lt_of_le hob0 hg.size
      have hSn : (y12.cell? ⟨cb, 1, none⟩ = some (.slice (some ⟨ob, oo, none⟩) m.length x.oc)) ∧ ∀ i, i < m.length → OpAt y12 ob (oo + i * 8) (atOp m i) := ⟨by have := (pair_cells HJ12.out.bx).2; rw [Hoa.out, Hm.out] at this; exact this, HM12.out⟩
      clear hg hr hv
      refine hK.out _ _ hSn (fun hHeld12 => ?_)
      clear hK K
      (try simp only [Act.put, List.setIfInBounds_toArray, List.set_cons_zero, List.set_cons_succ])
      obtain ⟨u, hu⟩ : ∃ u, atOp m v = u := ⟨_, rfl⟩
      have hvi : (v : Int) < (m.length : Int) := by omega
      have hv0 : decide ((v : Int) < 0) = false := decide_eq_false (by omega)
      have hv00 : ¬ ((v : Int) < 0) := by omega
      refine wpAnyH_take (i := 7) (oi := { dst := some 45, op := .indexAddr 25 (.tmp 39) (.tmp 44), type := 0, pos := "l07_deltas.go:129", after := #[⟨1, .data⟩, ⟨6, .data⟩], guard := none }) (v := ?_) rfl (by kernel_rfl) (by kernel_rfl) (by kernel_rfl) (fun _ _ _ h => h) (Or.inl ⟨by rfl, ?_⟩) (by assumption) ?_
      rotate_left
      · intro w hSw
        (try dsimp only at hSw)
        first | (go_simp; done) | (go_simp; with_reducible rfl)
      (try simp only [Act.put, List.setIfInBounds_toArray, List.set_cons_zero, List.set_cons_succ])
      refine wpAnyH_take (i := 8) (oi := { dst := some 46, op := .load 34 (.tmp 45), type := 34, pos := "l07_deltas.go:129", after := #[⟨7, .data⟩], guard := none }) (v := ?_) rfl (by kernel_rfl) (by kernel_rfl) (by kernel_rfl) (fun _ _ _ h => h) (Or.inl ⟨by rfl, ?_⟩) (by assumption) ?_
      rotate_left
      · intro w hSw
        (try dsimp only at hSw)
        obtain ⟨d0, d1, d2, d3, d4, d5, d6, d7⟩ := hSw.2 v hvm
        rw [hu] at d0 d1 d2 d3 d4 d5 d6 d7
        first | (go_simp; done) | (go_simp; with_reducible rfl)
      (try simp only [Act.put, List.setIfInBounds_toArray, List.set_cons_zero, List.set_cons_succ])
      have HCxo := Lib.hid HJ12.out.cx
      have HCyo := Lib.hid HJ12.out.cy
      obtain ⟨hx9, hhx⟩ : ∃ n, y12.heap.size = n := ⟨_, rfl⟩
      have HCx9 : Hid (CrtC y12 lo hx9 x) := by rw [← hhx]; exact HCxo
      have HCy9 : Hid (CrtC y12 lo hx9 y) := by rw [← hhx]; exact HCyo
      have HHx := Lib.hid hhx
      clear HCxo HCyo hhx
      refine wpAnyH_ready (rs := [9]) (by kernel_rfl) (by simp) ?_
      refine AllReadyH.cons (o := { dst := some 8, op := .alloc 34, type := 0, pos := "l07_deltas.go:129", after := #[], guard := none }) rfl (fun K hK => ?_) AllReadyH.nil
      have HCx8 : Hid (CrtC (y12.alloc (.cells #[.int .i64 0, .int .i64 0, .int .i64 0, .int .i64 0, .string ⟨#[]⟩, .int .i64 0, .int .i64 0, .int .i64 0] 34)) lo hx9 x) := Crt.kept HCx9.out fun j _ h2 => Below.heap_alloc _ _ _ (by rw [HHx.out]; exact h2)
      have HCy8 : Hid (CrtC (y12.alloc (.cells #[.int .i64 0, .int .i64 0, .int .i64 0, .int .i64 0, .string ⟨#[]⟩, .int .i64 0, .int .i64 0, .int .i64 0] 34)) lo hx9 y) := Crt.kept HCy9.out fun j _ h2 => Below.heap_alloc _ _ _ (by rw [HHx.out]; exact h2)
      clear HCx9 HCy9
      have hobz := hob0
      have hal : Below y12.heap.size y12 (y12.alloc (.cells #[.int .i64 0, .int .i64 0, .int .i64 0, .int .i64 0, .string ⟨#[]⟩, .int .i64 0, .int .i64 0, .int .i64 0] 34)) := (Below.refl _ _).alloc (Nat.le_refl _) _
      have HJ13 := Lib.hid (HJ12.out.below hal)
      have HM13 : Hid (∀ i, i < m.length → OpAt (y12.alloc (.cells #[.int .i64 0, .int .i64 0, .int .i64 0, .int .i64 0, .string ⟨#[]⟩, .int .i64 0, .int .i64 0, .int .i64 0] 34)) ob (oo + i * 8) (atOp m i)) := fun i hi => (HM12.out i hi).kept (hal.block _ hob0)
      have hob0 : ob < (y12.alloc (.cells #[.int .i64 0, .int .i64 0, .int .i64 0, .int .i64 0, .string ⟨#[]⟩, .int .i64 0, .int .i64 0, .int .i64 0] 34)).heap.size := Nat.lt_of_lt_of_le hob0 hal.size
      have HE13 := Lib.hid (boxAt (Below.refl _ (y12.alloc (.cells #[.int .i64 0, .int .i64 0, .int .i64 0, .int .i64 0, .string ⟨#[]⟩, .int .i64 0, .int .i64 0, .int .i64 0] 34))))
      have hlz := HJ12.out.d.rd.lt
      have hlb : db < y12.heap.size := lt_of_row HJ12.out.bz
      have hSn : ((y12.alloc (.cells #[.int .i64 0, .int .i64 0, .int .i64 0, .int .i64 0, .string ⟨#[]⟩, .int .i64 0, .int .i64 0, .int .i64 0] 34)).cell? ⟨cb, 1, none⟩ = some (.slice (some ⟨ob, oo, none⟩) m.length x.oc)) ∧ ∀ i, i < m.length → OpAt (y12.alloc (.cells #[.int .i64 0, .int .i64 0, .int .i64 0, .int .i64 0, .string ⟨#[]⟩, .int .i64 0, .int .i64 0, .int .i64 0] 34)) ob (oo + i * 8) (atOp m i) := ⟨by have := (pair_cells HJ13.out.bx).2; rw [Hoa.out, Hm.out] at this; exact this, HM13.out⟩
      go_simp
      refine hK.out _ _ hSn (fun hHeld13 => ?_)
      clear hK K hal
      (try simp only [Act.put, List.setIfInBounds_toArray, List.set_cons_zero, List.set_cons_succ])
      generalize y12.alloc (.cells #[.int .i64 0, .int .i64 0, .int .i64 0, .int .i64 0, .string ⟨#[]⟩, .int .i64 0, .int .i64 0, .int .i64 0] 34) = y13 at hHeld13 HJ13 HM13 HE13 hob0 HCx8 HCy8 ⊢
      have hel : y12.heap.size < y13.heap.size := lt_of_row HE13.out
      rw [HHx.out] at HE13 hlz hlb hel hobz ⊢
      clear HHx
      generalize hx9 = eb at HCx8 HCy8 hobz HE13 hlz hlb hel ⊢
      obtain ⟨r0, r1, r2, r3, r4, r5, r6, r7⟩ := op_cells HE13.out
      obtain ⟨f0, f1, f2, f3, f4, f5, f6, f7⟩ := op_frozen HE13.out
      have hko : ∀ j, j ≠ eb → (setOp y13 eb (.int .i64 u.dev) (.int .i64 u.seq) (.int .i64 u.stamp) (.int .i64 u.kind) (.string u.item) (.int .i64 u.qty) (.int .i64 u.level) (.int .i64 u.undos)).heap[j]? = y13.heap[j]? := fun j hj => setOp_other _ _ _ _ _ _ _ _ hj
      have hglo := HJ13.out.glo
      have hclo := HJ13.out.clo
      have hcdb := HJ13.out.cdb
      have hcx : CrtC (setOp y13 eb (.int .i64 u.dev) (.int .i64 u.seq) (.int .i64 u.stamp) (.int .i64 u.kind) (.string u.item) (.int .i64 u.qty) (.int .i64 u.level) (.int .i64 u.undos)) lo y13.heap.size x := Crt.more (Crt.kept HCx8.out fun j h1 h2 => hko j (by omega)) (Nat.le_refl _) (by omega) (Nat.le_refl _)
      have hcy : CrtC (setOp y13 eb (.int .i64 u.dev) (.int .i64 u.seq) (.int .i64 u.stamp) (.int .i64 u.kind) (.string u.item) (.int .i64 u.qty) (.int .i64 u.level) (.int .i64 u.undos)) lo y13.heap.size y := Crt.more (Crt.kept HCy8.out fun j h1 h2 => hko j (by omega)) (Nat.le_refl _) (by omega) (Nat.le_refl _)
      have HT : Hid (TgI w (setOp y13 eb (.int .i64 u.dev) (.int .i64 u.seq) (.int .i64 u.stamp) (.int .i64 u.kind) (.string u.item) (.int .i64 u.qty) (.int .i64 u.level) (.int .i64 u.undos)) B g a len cap lo cb db x y) := HJ13.out.op _ _ _ _ _ _ _ _ HE13.out (by omega) hcx hcy
      have HEs := Lib.hid (setOp_same (.int .i64 u.dev) (.int .i64 u.seq) (.int .i64 u.stamp) (.int .i64 u.kind) (.string u.item) (.int .i64 u.qty) (.int .i64 u.level) (.int .i64 u.undos) HE13.out)
      have hoe : ob ≠ eb := by omega
      have HMs : Hid (∀ i, i < m.length → OpAt (setOp y13 eb (.int .i64 u.dev) (.int .i64 u.seq) (.int .i64 u.stamp) (.int .i64 u.kind) (.string u.item) (.int .i64 u.qty) (.int .i64 u.level) (.int .i64 u.undos)) ob (oo + i * 8) (atOp m i)) := fun i hi => (HM13.out i hi).kept (hko _ hoe)
      clear hko hcx hcy HCx8 HCy8
      have hSn : ((setOp y13 eb (.int .i64 u.dev) (.int .i64 u.seq) (.int .i64 u.stamp) (.int .i64 u.kind) (.string u.item) (.int .i64 u.qty) (.int .i64 u.level) (.int .i64 u.undos)).cell? ⟨cb, 1, none⟩ = some (.slice (some ⟨ob, oo, none⟩) m.length x.oc)) ∧ ∀ i, i < m.length → OpAt (setOp y13 eb (.int .i64 u.dev) (.int .i64 u.seq) (.int .i64 u.stamp) (.int .i64 u.kind) (.string u.item) (.int .i64 u.qty) (.int .i64 u.level) (.int .i64 u.undos)) ob (oo + i * 8) (atOp m i) := ⟨by have := (pair_cells HT.out.bx).2; rw [Hoa.out, Hm.out] at this; exact this, HMs.out⟩
      refine wpAnyH_ready (rs := [10]) (by kernel_rfl) (by simp) ?_
      refine AllReadyH.cons (o := { dst := none, op := .store 34 (.tmp 8) (.tmp 46), type := 0, pos := "l07_deltas.go:129", after := #[⟨9, .data⟩, ⟨8, .data⟩, ⟨6, .chain⟩, ⟨0, .phase⟩, ⟨1, .phase⟩, ⟨2, .phase⟩, ⟨3, .phase⟩, ⟨4, .phase⟩, ⟨5, .phase⟩, ⟨6, .phase⟩, ⟨7, .phase⟩, ⟨8, .phase⟩, ⟨9, .phase⟩], guard := none }) rfl (fun K hK => ?_) AllReadyH.nil
      go_simp
      refine hK.out _ _ hSn (fun hHeld14 => ?_)
      clear hK K
      (try simp only [Act.put, List.setIfInBounds_toArray, List.set_cons_zero, List.set_cons_succ])
      refine wpAnyH_done (by kernel_rfl) ?_ _
      clear hSn r0 r1 r2 r3 r4 r5 r6 r7 f0 f1 f2 f3 f4 f5 f6 f7 HE13 HJ13 HM13 HMs
      obtain ⟨w7, hw7⟩ : ∃ z, ((((((((y13.setCell ⟨eb, 0, none⟩ (.int .i64 u.dev)).setCell ⟨eb, 1, none⟩ (.int .i64 u.seq)).setCell ⟨eb, 2, none⟩ (.int .i64 u.stamp)).setCell ⟨eb, 3, none⟩ (.int .i64 u.kind)).setCell ⟨eb, 4, none⟩ (.string u.item)).setCell ⟨eb, 5, none⟩ (.int .i64 u.qty)).setCell ⟨eb, 6, none⟩ (.int .i64 u.level)).setCell ⟨eb, 7, none⟩ (.int .i64 u.undos)) = z := ⟨_, rfl⟩
      rw [hw7]
      have HT7 : Hid (TgI w w7 B g a len cap lo cb db x y) := by rw [← hw7]; exact HT
      have HE7 : Hid (w7.heap[eb]? = some (.cells #[.int .i64 u.dev, .int .i64 u.seq, .int .i64 u.stamp, .int .i64 u.kind, .string u.item, .int .i64 u.qty, .int .i64 u.level, .int .i64 u.undos] 34 (0, 0))) := by rw [← hw7]; exact HEs
      clear HT HEs hw7
      have HT := HT7
      have HEs := HE7
      clear HT7 HE7
      obtain ⟨q0, q1⟩ := pair_cells HT.out.bz
      obtain ⟨d0, d1, d2, d3, d4, d5, d6, d7⟩ := op_cells HEs.out
      go_wp2_with fail
      refine (issueCrt w7 lo w7.heap.size y 0 9 0 u.dev u.seq ⟨#[]⟩ HT.out.cy (Nat.le_refl _) (by decide)).mono ?_
      rintro e w8 ⟨va, nv, vc, oa, no, oc, code, rfl, hb, hcr⟩
      have HI8 := Lib.hid (HT.out.below hb)
      have hll := HT.out.d.rd.lt
      have hld := lt_of_row HT.out.bz
      have HCs : Hid (code = 0 → nv = 4 ∧ Crt w8 lo w8.heap.size va vc oa no oc 400) := fun h => ⟨(hcr h).1, (hcr h).2.more (by omega) (Nat.le_refl _) (by omega)⟩
      clear q0 q1 d0 d1 d2 d3 d4 d5 d6 d7 hb hcr HT HEs
      go_upto_region 11 with fail
      have hal : Below w8.heap.size w8 (w8.alloc (.cells #[.slice va nv vc, .slice oa no oc] 27)) := (Below.refl _ _).alloc (Nat.le_refl _) _
      have HI9 := Lib.hid (HI8.out.below hal)
      have HE9 := Lib.hid (boxAt (Below.refl _ (w8.alloc (.cells #[.slice va nv vc, .slice oa no oc] 27))))
      have HC9 : Hid (code = 0 → nv = 4 ∧ Crt (w8.alloc (.cells #[.slice va nv vc, .slice oa no oc] 27)) lo (w8.alloc (.cells #[.slice va nv vc, .slice oa no oc] 27)).heap.size va vc oa no oc 400) := fun h => ⟨(HCs.out h).1, Crt.more (Crt.kept (HCs.out h).2 fun j _ h2 => hal.block j h2) (Nat.le_refl _) hal.size (Nat.le_refl _)⟩
      clear hal HCs HI8
      generalize w8.alloc (.cells #[.slice va nv vc, .slice oa no oc] 27) = w9 at HI9 HE9 HC9 ⊢
      generalize w8.heap.size = eb2 at HE9 ⊢
      have hk1 : ((k : Int) - 1) = ((k - 1 : Nat) : Int) := by omega
      have hk2 : IntKind.i64.wrap ((k : Int) - 1) = ((k - 1 : Nat) : Int) := (IntWalk.i64_in _ (by omega)).trans hk1
      by_cases hcode : code = 0
      rotate_left
      · have hci : ((code == 0) = false) := by simpa using hcode
        have hcd : ¬ (code = 0) := hcode
        go_wp2
        go_roundw
        case rel => exact ⟨k - 1, y, by omega, by go_num, HI9⟩
        case measure => simp [intOf]; omega
      obtain ⟨e4, hcw⟩ := HC9.out hcode
      subst e4
      subst hcode
      have HMw := Lib.hid hcw
      clear hcw HC9
      obtain ⟨y2, hy2⟩ : ∃ y2 : CartC, y2 = ⟨va, vc, oa, no, oc⟩ := ⟨_, rfl⟩
      have HMc : Hid (CrtC w9 lo w9.heap.size y2) := by rw [hy2]; exact HMw
      clear HMw
      have e1 : va = y2.va := by rw [hy2]
      have e2 : vc = y2.vc := by rw [hy2]
      have e3 : oa = y2.oa := by rw [hy2]
      have e5 : no = y2.no := by rw [hy2]
      have e6 : oc = y2.oc := by rw [hy2]
      subst e1 e2 e3 e5 e6
      clear hy2
      have HBt := Lib.hid (HI9.out.turn y2 HMc.out)
      obtain ⟨m0, m1⟩ := pair_cells HE9.out
      obtain ⟨r0, r1⟩ := pair_cells HI9.out.bz
      obtain ⟨f0, f1⟩ := pair_frozen HI9.out.bz
      go_upto_region 8 with fail
      clear m0 m1 r0 r1 f0 f1 HI9 HE9 HMc
      generalize (w9.setCell ⟨db, 0, none⟩ (.slice y2.va 4 y2.vc)).setCell ⟨db, 1, none⟩ (.slice y2.oa y2.no y2.oc) = w10 at HBt ⊢
      go_wp2
      go_roundw
      case rel => exact ⟨k - 1, y2, by omega, by go_num, HBt⟩
      case measure => simp [intOf]; omega
    · skip
      obtain ⟨hx9, hhx⟩ : ∃ n, z0.heap.size = n := ⟨_, rfl⟩
      have HCx9 : Hid (CrtC z0 lo hx9 x) := by rw [← hhx]; exact HJ0.out.cx
      have HCy9 : Hid (CrtC z0 lo hx9 y) := by rw [← hhx]; exact HJ0.out.cy
      have HHx := Lib.hid hhx
      clear hhx
      have HCx8 : Hid (CrtC (z0.alloc (.cells #[.int .i64 0, .int .i64 0, .int .i64 0, .int .i64 0, .string ⟨#[]⟩, .int .i64 0, .int .i64 0, .int .i64 0] 34)) lo hx9 x) := Crt.kept HCx9.out fun j _ h2 => Below.heap_alloc _ _ _ (by rw [HHx.out]; exact h2)
      have HCy8 : Hid (CrtC (z0.alloc (.cells #[.int .i64 0, .int .i64 0, .int .i64 0, .int .i64 0, .string ⟨#[]⟩, .int .i64 0, .int .i64 0, .int .i64 0] 34)) lo hx9 y) := Crt.kept HCy9.out fun j _ h2 => Below.heap_alloc _ _ _ (by rw [HHx.out]; exact h2)
      clear HCx9 HCy9
      have hobz := hob0
      have hal : Below z0.heap.size z0 (z0.alloc (.cells #[.int .i64 0, .int .i64 0, .int .i64 0, .int .i64 0, .string ⟨#[]⟩, .int .i64 0, .int .i64 0, .int .i64 0] 34)) := (Below.refl _ _).alloc (Nat.le_refl _) _
      have HJ15 := Lib.hid (HJ0.out.below hal)
      have HM15 : Hid (∀ i, i < m.length → OpAt (z0.alloc (.cells #[.int .i64 0, .int .i64 0, .int .i64 0, .int .i64 0, .string ⟨#[]⟩, .int .i64 0, .int .i64 0, .int .i64 0] 34)) ob (oo + i * 8) (atOp m i)) := fun i hi => (HMO0.out i hi).kept (hal.block _ hob0)
      have hob0 : ob < (z0.alloc (.cells #[.int .i64 0, .int .i64 0, .int .i64 0, .int .i64 0, .string ⟨#[]⟩, .int .i64 0, .int .i64 0, .int .i64 0] 34)).heap.size := Nat.lt_of_lt_of_le hob0 hal.size
      have HE15 := Lib.hid (boxAt (Below.refl _ (z0.alloc (.cells #[.int .i64 0, .int .i64 0, .int .i64 0, .int .i64 0, .string ⟨#[]⟩, .int .i64 0, .int .i64 0, .int .i64 0] 34))))
      have hlz := HJ0.out.d.rd.lt
      have hlb : db < z0.heap.size := lt_of_row HJ0.out.bz
      have hSn : ((z0.alloc (.cells #[.int .i64 0, .int .i64 0, .int .i64 0, .int .i64 0, .string ⟨#[]⟩, .int .i64 0, .int .i64 0, .int .i64 0] 34)).cell? ⟨cb, 1, none⟩ = some (.slice (some ⟨ob, oo, none⟩) m.length x.oc)) ∧ ∀ i, i < m.length → OpAt (z0.alloc (.cells #[.int .i64 0, .int .i64 0, .int .i64 0, .int .i64 0, .string ⟨#[]⟩, .int .i64 0, .int .i64 0, .int .i64 0] 34)) ob (oo + i * 8) (atOp m i) := ⟨by have := (pair_cells HJ15.out.bx).2; rw [Hoa.out, Hm.out] at this; exact this, HM15.out⟩
      go_simp
      refine hK.out _ _ hSn (fun hHeld15 => ?_)
      clear hK K hal
      (try simp only [Act.put, List.setIfInBounds_toArray, List.set_cons_zero, List.set_cons_succ])
      generalize z0.alloc (.cells #[.int .i64 0, .int .i64 0, .int .i64 0, .int .i64 0, .string ⟨#[]⟩, .int .i64 0, .int .i64 0, .int .i64 0] 34) = y15 at hHeld15 HJ15 HM15 HE15 hob0 HCx8 HCy8 ⊢
      have hel : z0.heap.size < y15.heap.size := lt_of_row HE15.out
      rw [HHx.out] at HE15 hlz hlb hel hobz ⊢
      clear HHx
      generalize hx9 = eb at HCx8 HCy8 hobz HE15 hlz hlb hel ⊢
      refine wpAnyH_ready (rs := [6]) (by kernel_rfl) (by simp) ?_
      refine AllReadyH.cons (o := { dst := some 44, op := .call { callee := .value (.func 90), args := #[.tmp 40, .tmp 43], argTypes := #[94, 3] }, type := 3, pos := "l07_deltas.go:129", after := #[⟨2, .data⟩, ⟨5, .data⟩], guard := none }) rfl (fun K hK => ?_) AllReadyH.nil
      go_simp
      go_at_call 90
      refine (belowI y15 B g a len cap HJ15.out.d.rd (m.length : Int) (by omega) (by omega)).mono ?_
      rintro e y16 ⟨v, hv, rfl, hg, hr⟩
      have hvm : v < m.length := by omega
      have HJ16 := Lib.hid (HJ15.out.step hg hr)
      have HM16 : Hid (∀ i, i < m.length → OpAt y16 ob (oo + i * 8) (atOp m i)) := fun i hi => (HM15.out i hi).kept (hg.block _ hob0 (by intro e; injection e with e; exact hgo e))
      have hob0 : ob < y16.heap.size := Nat.lt_of_lt_of_le hob0 hg.size
      have HE16 := Lib.hid ((hg.block eb hel (by intro e; injection e with e; omega)).trans HE15.out)
      have hel := Nat.lt_of_lt_of_le hel hg.size
      have hSn : (y16.cell? ⟨cb, 1, none⟩ = some (.slice (some ⟨ob, oo, none⟩) m.length x.oc)) ∧ ∀ i, i < m.length → OpAt y16 ob (oo + i * 8) (atOp m i) := ⟨by have := (pair_cells HJ16.out.bx).2; rw [Hoa.out, Hm.out] at this; exact this, HM16.out⟩
      have HCx7 : Hid (CrtC y16 lo eb x) := Crt.kept HCx8.out fun j h1 h2 => hg.block j (by omega) (by intro e; injection e with e; have := HJ15.out.glo; omega)
      have HCy7 : Hid (CrtC y16 lo eb y) := Crt.kept HCy8.out fun j h1 h2 => hg.block j (by omega) (by intro e; injection e with e; have := HJ15.out.glo; omega)
      clear HCx8 HCy8
      have HCx8 := HCx7
      have HCy8 := HCy7
      clear HCx7 HCy7
      clear hg hr hv
      refine hK.out _ _ hSn (fun hHeld16 => ?_)
      clear hK K
      (try simp only [Act.put, List.setIfInBounds_toArray, List.set_cons_zero, List.set_cons_succ])
      obtain ⟨u, hu⟩ : ∃ u, atOp m v = u := ⟨_, rfl⟩
      have hvi : (v : Int) < (m.length : Int) := by omega
      have hv0 : decide ((v : Int) < 0) = false := decide_eq_false (by omega)
      have hv00 : ¬ ((v : Int) < 0) := by omega
      refine wpAnyH_take (i := 7) (oi := { dst := some 45, op := .indexAddr 25 (.tmp 39) (.tmp 44), type := 0, pos := "l07_deltas.go:129", after := #[⟨1, .data⟩, ⟨6, .data⟩], guard := none }) (v := ?_) rfl (by kernel_rfl) (by kernel_rfl) (by kernel_rfl) (fun _ _ _ h => h) (Or.inl ⟨by rfl, ?_⟩) (by assumption) ?_
      rotate_left
      · intro w hSw
        (try dsimp only at hSw)
        first | (go_simp; done) | (go_simp; with_reducible rfl)
      (try simp only [Act.put, List.setIfInBounds_toArray, List.set_cons_zero, List.set_cons_succ])
      refine wpAnyH_take (i := 8) (oi := { dst := some 46, op := .load 34 (.tmp 45), type := 34, pos := "l07_deltas.go:129", after := #[⟨7, .data⟩], guard := none }) (v := ?_) rfl (by kernel_rfl) (by kernel_rfl) (by kernel_rfl) (fun _ _ _ h => h) (Or.inl ⟨by rfl, ?_⟩) (by assumption) ?_
      rotate_left
      · intro w hSw
        (try dsimp only at hSw)
        obtain ⟨d0, d1, d2, d3, d4, d5, d6, d7⟩ := hSw.2 v hvm
        rw [hu] at d0 d1 d2 d3 d4 d5 d6 d7
        first | (go_simp; done) | (go_simp; with_reducible rfl)
      (try simp only [Act.put, List.setIfInBounds_toArray, List.set_cons_zero, List.set_cons_succ])
      obtain ⟨r0, r1, r2, r3, r4, r5, r6, r7⟩ := op_cells HE16.out
      obtain ⟨f0, f1, f2, f3, f4, f5, f6, f7⟩ := op_frozen HE16.out
      have hko : ∀ j, j ≠ eb → (setOp y16 eb (.int .i64 u.dev) (.int .i64 u.seq) (.int .i64 u.stamp) (.int .i64 u.kind) (.string u.item) (.int .i64 u.qty) (.int .i64 u.level) (.int .i64 u.undos)).heap[j]? = y16.heap[j]? := fun j hj => setOp_other _ _ _ _ _ _ _ _ hj
      have hglo := HJ16.out.glo
      have hclo := HJ16.out.clo
      have hcdb := HJ16.out.cdb
      have hcx : CrtC (setOp y16 eb (.int .i64 u.dev) (.int .i64 u.seq) (.int .i64 u.stamp) (.int .i64 u.kind) (.string u.item) (.int .i64 u.qty) (.int .i64 u.level) (.int .i64 u.undos)) lo y16.heap.size x := Crt.more (Crt.kept HCx8.out fun j h1 h2 => hko j (by omega)) (Nat.le_refl _) (by omega) (Nat.le_refl _)
      have hcy : CrtC (setOp y16 eb (.int .i64 u.dev) (.int .i64 u.seq) (.int .i64 u.stamp) (.int .i64 u.kind) (.string u.item) (.int .i64 u.qty) (.int .i64 u.level) (.int .i64 u.undos)) lo y16.heap.size y := Crt.more (Crt.kept HCy8.out fun j h1 h2 => hko j (by omega)) (Nat.le_refl _) (by omega) (Nat.le_refl _)
      have HT : Hid (TgI w (setOp y16 eb (.int .i64 u.dev) (.int .i64 u.seq) (.int .i64 u.stamp) (.int .i64 u.kind) (.string u.item) (.int .i64 u.qty) (.int .i64 u.level) (.int .i64 u.undos)) B g a len cap lo cb db x y) := HJ16.out.op _ _ _ _ _ _ _ _ HE16.out (by omega) hcx hcy
      have HEs := Lib.hid (setOp_same (.int .i64 u.dev) (.int .i64 u.seq) (.int .i64 u.stamp) (.int .i64 u.kind) (.string u.item) (.int .i64 u.qty) (.int .i64 u.level) (.int .i64 u.undos) HE16.out)
      have hoe : ob ≠ eb := by omega
      have HMs : Hid (∀ i, i < m.length → OpAt (setOp y16 eb (.int .i64 u.dev) (.int .i64 u.seq) (.int .i64 u.stamp) (.int .i64 u.kind) (.string u.item) (.int .i64 u.qty) (.int .i64 u.level) (.int .i64 u.undos)) ob (oo + i * 8) (atOp m i)) := fun i hi => (HM16.out i hi).kept (hko _ hoe)
      clear hko hcx hcy HCx8 HCy8
      have hSn : ((setOp y16 eb (.int .i64 u.dev) (.int .i64 u.seq) (.int .i64 u.stamp) (.int .i64 u.kind) (.string u.item) (.int .i64 u.qty) (.int .i64 u.level) (.int .i64 u.undos)).cell? ⟨cb, 1, none⟩ = some (.slice (some ⟨ob, oo, none⟩) m.length x.oc)) ∧ ∀ i, i < m.length → OpAt (setOp y16 eb (.int .i64 u.dev) (.int .i64 u.seq) (.int .i64 u.stamp) (.int .i64 u.kind) (.string u.item) (.int .i64 u.qty) (.int .i64 u.level) (.int .i64 u.undos)) ob (oo + i * 8) (atOp m i) := ⟨by have := (pair_cells HT.out.bx).2; rw [Hoa.out, Hm.out] at this; exact this, HMs.out⟩
      refine wpAnyH_ready (rs := [10]) (by kernel_rfl) (by simp) ?_
      refine AllReadyH.cons (o := { dst := none, op := .store 34 (.tmp 8) (.tmp 46), type := 0, pos := "l07_deltas.go:129", after := #[⟨9, .data⟩, ⟨8, .data⟩, ⟨6, .chain⟩, ⟨0, .phase⟩, ⟨1, .phase⟩, ⟨2, .phase⟩, ⟨3, .phase⟩, ⟨4, .phase⟩, ⟨5, .phase⟩, ⟨6, .phase⟩, ⟨7, .phase⟩, ⟨8, .phase⟩, ⟨9, .phase⟩], guard := none }) rfl (fun K hK => ?_) AllReadyH.nil
      go_simp
      refine hK.out _ _ hSn (fun hHeld17 => ?_)
      clear hK K
      (try simp only [Act.put, List.setIfInBounds_toArray, List.set_cons_zero, List.set_cons_succ])
      refine wpAnyH_done (by kernel_rfl) ?_ _
      clear hSn r0 r1 r2 r3 r4 r5 r6 r7 f0 f1 f2 f3 f4 f5 f6 f7 HE16 HJ16 HM16 HMs
      obtain ⟨w7, hw7⟩ : ∃ z, ((((((((y16.setCell ⟨eb, 0, none⟩ (.int .i64 u.dev)).setCell ⟨eb, 1, none⟩ (.int .i64 u.seq)).setCell ⟨eb, 2, none⟩ (.int .i64 u.stamp)).setCell ⟨eb, 3, none⟩ (.int .i64 u.kind)).setCell ⟨eb, 4, none⟩ (.string u.item)).setCell ⟨eb, 5, none⟩ (.int .i64 u.qty)).setCell ⟨eb, 6, none⟩ (.int .i64 u.level)).setCell ⟨eb, 7, none⟩ (.int .i64 u.undos)) = z := ⟨_, rfl⟩
      rw [hw7]
      have HT7 : Hid (TgI w w7 B g a len cap lo cb db x y) := by rw [← hw7]; exact HT
      have HE7 : Hid (w7.heap[eb]? = some (.cells #[.int .i64 u.dev, .int .i64 u.seq, .int .i64 u.stamp, .int .i64 u.kind, .string u.item, .int .i64 u.qty, .int .i64 u.level, .int .i64 u.undos] 34 (0, 0))) := by rw [← hw7]; exact HEs
      clear HT HEs hw7
      have HT := HT7
      have HEs := HE7
      clear HT7 HE7
      obtain ⟨q0, q1⟩ := pair_cells HT.out.bz
      obtain ⟨d0, d1, d2, d3, d4, d5, d6, d7⟩ := op_cells HEs.out
      go_wp2_with fail
      refine (issueCrt w7 lo w7.heap.size y 0 9 0 u.dev u.seq ⟨#[]⟩ HT.out.cy (Nat.le_refl _) (by decide)).mono ?_
      rintro e w8 ⟨va, nv, vc, oa, no, oc, code, rfl, hb, hcr⟩
      have HI8 := Lib.hid (HT.out.below hb)
      have hll := HT.out.d.rd.lt
      have hld := lt_of_row HT.out.bz
      have HCs : Hid (code = 0 → nv = 4 ∧ Crt w8 lo w8.heap.size va vc oa no oc 400) := fun h => ⟨(hcr h).1, (hcr h).2.more (by omega) (Nat.le_refl _) (by omega)⟩
      clear q0 q1 d0 d1 d2 d3 d4 d5 d6 d7 hb hcr HT HEs
      go_upto_region 11 with fail
      have hal : Below w8.heap.size w8 (w8.alloc (.cells #[.slice va nv vc, .slice oa no oc] 27)) := (Below.refl _ _).alloc (Nat.le_refl _) _
      have HI9 := Lib.hid (HI8.out.below hal)
      have HE9 := Lib.hid (boxAt (Below.refl _ (w8.alloc (.cells #[.slice va nv vc, .slice oa no oc] 27))))
      have HC9 : Hid (code = 0 → nv = 4 ∧ Crt (w8.alloc (.cells #[.slice va nv vc, .slice oa no oc] 27)) lo (w8.alloc (.cells #[.slice va nv vc, .slice oa no oc] 27)).heap.size va vc oa no oc 400) := fun h => ⟨(HCs.out h).1, Crt.more (Crt.kept (HCs.out h).2 fun j _ h2 => hal.block j h2) (Nat.le_refl _) hal.size (Nat.le_refl _)⟩
      clear hal HCs HI8
      generalize w8.alloc (.cells #[.slice va nv vc, .slice oa no oc] 27) = w9 at HI9 HE9 HC9 ⊢
      generalize w8.heap.size = eb2 at HE9 ⊢
      have hk1 : ((k : Int) - 1) = ((k - 1 : Nat) : Int) := by omega
      have hk2 : IntKind.i64.wrap ((k : Int) - 1) = ((k - 1 : Nat) : Int) := (IntWalk.i64_in _ (by omega)).trans hk1
      by_cases hcode : code = 0
      rotate_left
      · have hci : ((code == 0) = false) := by simpa using hcode
        have hcd : ¬ (code = 0) := hcode
        go_wp2
        go_roundw
        case rel => exact ⟨k - 1, y, by omega, by go_num, HI9⟩
        case measure => simp [intOf]; omega
      obtain ⟨e4, hcw⟩ := HC9.out hcode
      subst e4
      subst hcode
      have HMw := Lib.hid hcw
      clear hcw HC9
      obtain ⟨y2, hy2⟩ : ∃ y2 : CartC, y2 = ⟨va, vc, oa, no, oc⟩ := ⟨_, rfl⟩
      have HMc : Hid (CrtC w9 lo w9.heap.size y2) := by rw [hy2]; exact HMw
      clear HMw
      have e1 : va = y2.va := by rw [hy2]
      have e2 : vc = y2.vc := by rw [hy2]
      have e3 : oa = y2.oa := by rw [hy2]
      have e5 : no = y2.no := by rw [hy2]
      have e6 : oc = y2.oc := by rw [hy2]
      subst e1 e2 e3 e5 e6
      clear hy2
      have HBt := Lib.hid (HI9.out.turn y2 HMc.out)
      obtain ⟨m0, m1⟩ := pair_cells HE9.out
      obtain ⟨r0, r1⟩ := pair_cells HI9.out.bz
      obtain ⟨f0, f1⟩ := pair_frozen HI9.out.bz
      go_upto_region 8 with fail
      clear m0 m1 r0 r1 f0 f1 HI9 HE9 HMc
      generalize (w9.setCell ⟨db, 0, none⟩ (.slice y2.va 4 y2.vc)).setCell ⟨db, 1, none⟩ (.slice y2.oa y2.no y2.oc) = w10 at HBt ⊢
      go_wp2
      go_roundw
      case rel => exact ⟨k - 1, y2, by omega, by go_num, HBt⟩
      case measure => simp [intOf]; omega
end Go.Proofs.Ytmceofdknphgkaa
