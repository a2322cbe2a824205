/- spec.l8Sort, with the capacity of its answer. -/
import Derived.Test.YtmceofdknphgkaaGa24
import Derived.Deep.Onto
import Derived.Deep.Cut
import Derived.Test.YtmceofdknphgkaaGpS
namespace Go.Proofs.Ytmceofdknphgkaa
open Go.RowKit

/-- As OpsPostC; and the answer is not nil. -/
def OpsPostS (l : List OpV) (w : World) (e : Ending) (w' : World) : Prop := ∃ g c, e = .returned (.slice (some ⟨g, 0, none⟩) l.length c) ∧ l.length ≤ c ∧ OwnOps w' w.heap.size w'.heap.size (some ⟨g, 0, none⟩) l.length l ∧ Below w.heap.size w w'
set_option linter.unusedSimpArgs false in
set_option maxRecDepth 100000 in
set_option maxHeartbeats 16000000 in
theorem l8SortC (w : World) (B : Nat) (a : Option Addr) (n cap : Nat) (l : List OpV) (h : Ops w B a n l) (hB : B ≤ w.heap.size) (hn : n ≤ 1048576) :
    Calls Try.prog 104 #[.slice a n cap] w (OpsPostS (sortTo l n) w) := by
  obtain ⟨i0, hi, hz0, hz1, hz2⟩ := info_parts Try.infoOp
  have H := Lib.hid h
  have HL := Lib.hid h.1
  have hown0 : (w.alloc (.cells #[] 34)).ownsRow w.heap.size 34 8 (.slice (some ⟨w.heap.size, 0, none⟩) 0 0) 0 [] := World.ownsRow_made w #[] 0 (Nat.le_refl _) (by unfold maxLen; omega) rfl
  have HOw := Lib.hid hown0
  have HB0 : Hid (Below w.heap.size w (w.alloc (.cells #[] 34))) := (Below.refl _ w).alloc (Nat.le_refl _) _
  clear h hown0
  go_enter Try.func104, Try.ntmps104
  go_upto_region 2 with fail
  generalize w.alloc (.cells #[] 34) = w0 at HOw HB0 ⊢
  go_wp2
  go_loopw [3, 4] (fun v i wr => ∃ (k : Nat) (vv : Value), k ≤ n ∧ vv = v ∧ i = .int .i64 (k : Int) ∧ Hid (v ≠ .slice none 0 0) ∧ Hid (wr.ownsRow w.heap.size 34 8 v k (opCells (sortTo l k))) ∧ Hid (Below w.heap.size w wr)) (fun _ i _ => n - (intOf i).toNat)
  case atStart => exact ⟨0, _, Nat.zero_le _, rfl, rfl, (fun e => by cases e), HOw, HB0⟩
  case round =>
    obtain ⟨k, vv, hk, hvv, rfl, HNe, HR, HBr⟩ := hrel
    subst hvv
    obtain ⟨g, oc, rfl, hg, hgw, hoc, hoc2⟩ := row_form HR.out HNe.out
    clear HNe HOw HB0
    by_cases hlt : k < n
    rotate_left
    · obtain rfl : k = n := by omega
      have HLs := Lib.hid (sort_len l k (by rw [HL.out]; exact Nat.le_refl _))
      have HP := Lib.hid (own_of_cells HR.out (Nat.le_refl _))
      go_wp2
      go_ret
      exact ⟨g, oc, by rw [HLs.out]; rfl, by rw [HLs.out]; exact own_cap HR.out, by rw [HLs.out]; exact HP.out, HBr.out⟩
    have HLs := Lib.hid (sort_len l k (by rw [HL.out]; omega))
    have HSt := Lib.hid (sort_step (l := l) (k := k) (by rw [HL.out]; exact hlt))
    generalize sortTo l k = L at HLs HR HSt
    have hsr := HBr.out.size
    obtain ⟨b, off, rfl, hb, ho⟩ := H.out.2 k hlt
    have HOk : Hid (∀ W, Below w.heap.size w W → OpAt W b (off + k * 8) (atOp l k)) := fun W hW => (show OpAt w b (off + k * 8) (atOp l k) from ho).kept (hW.block b (by omega))
    clear ho
    generalize atOp l k = x at HOk HSt
    have hki : (k : Int) < (n : Int) := by omega
    go_wp2
    go_loopw [5] (fun i wi => ∃ t : Nat, t ≤ k ∧ i = .int .i64 (t : Int) ∧ Hid (∀ j, j < t → befO (atOp L j) x = true) ∧ Hid (wi.ownsRow w.heap.size 34 8 (.slice (some ⟨g, 0, none⟩) k oc) k (opCells L)) ∧ Hid (Below w.heap.size w wi)) (fun i _ => k - (intOf i).toNat)
    case atStart => exact ⟨0, Nat.zero_le _, rfl, fun j hj => absurd hj (by omega), HR, HBr⟩
    case round =>
      obtain ⟨t, htk, rfl, HT, HRi, HBi⟩ := hrel
      clear HR HBr
      obtain ⟨d0, d1, d2, d3, d4, d5, d6, d7⟩ := HOk.out wr HBi.out
      by_cases hend : t < k
      rotate_left
      · have htke : t = k := by omega
        have HCt := Lib.hid (cnt_end (L := L) (x := x) (t := t) HT.out (fun h => absurd h (by rw [HLs.out]; omega)) (by rw [HLs.out]; omega))
        have hdl : decide (t < k) = false := decide_eq_false (by omega)
        have hdl2 : decide ((t : Int) < (k : Int)) = false := decide_eq_false (by omega)
        have hS : wr.drew.cell? ⟨b, off + k * 8, none⟩ = some (.int .i64 x.dev) ∧ wr.drew.cell? ⟨b, off + k * 8 + 1, none⟩ = some (.int .i64 x.seq) ∧ wr.drew.cell? ⟨b, off + k * 8 + 2, none⟩ = some (.int .i64 x.stamp) ∧ wr.drew.cell? ⟨b, off + k * 8 + 3, none⟩ = some (.int .i64 x.kind) ∧ wr.drew.cell? ⟨b, off + k * 8 + 4, none⟩ = some (.string x.item) ∧ wr.drew.cell? ⟨b, off + k * 8 + 5, none⟩ = some (.int .i64 x.qty) ∧ wr.drew.cell? ⟨b, off + k * 8 + 6, none⟩ = some (.int .i64 x.level) ∧ wr.drew.cell? ⟨b, off + k * 8 + 7, none⟩ = some (.int .i64 x.undos) := ⟨d0, d1, d2, d3, d4, d5, d6, d7⟩
        go_wp2_with fail
        refine wp_region_held_drew (S := fun w' => w'.cell? ⟨b, off + k * 8, none⟩ = some (.int .i64 x.dev) ∧ w'.cell? ⟨b, off + k * 8 + 1, none⟩ = some (.int .i64 x.seq) ∧ w'.cell? ⟨b, off + k * 8 + 2, none⟩ = some (.int .i64 x.stamp) ∧ w'.cell? ⟨b, off + k * 8 + 3, none⟩ = some (.int .i64 x.kind) ∧ w'.cell? ⟨b, off + k * 8 + 4, none⟩ = some (.string x.item) ∧ w'.cell? ⟨b, off + k * 8 + 5, none⟩ = some (.int .i64 x.qty) ∧ w'.cell? ⟨b, off + k * 8 + 6, none⟩ = some (.int .i64 x.level) ∧ w'.cell? ⟨b, off + k * 8 + 7, none⟩ = some (.int .i64 x.undos)) (by kernel_rfl) hS (fun hHeld => ?_)
        refine wpAnyH_take (i := 0) (oi := { dst := some 14, op := .move (.tmp 5), type := 3, pos := "l08_pages.go:10", after := #[], guard := none }) (v := ?_) rfl (by kernel_rfl) (by kernel_rfl) (by kernel_rfl) (fun _ _ _ h => h) (Or.inl ⟨by rfl, ?_⟩) (by assumption) ?_
        rotate_left
        · intro w hSw
          (try dsimp only at hSw)
          first | (go_simp; done) | (go_simp; with_reducible rfl)
        (try simp only [Act.put, List.setIfInBounds_toArray, List.set_cons_zero, List.set_cons_succ])
        refine wpAnyH_take (i := 1) (oi := { dst := some 15, op := .move (.tmp 3), type := 25, pos := "l08_pages.go:10", after := #[], guard := none }) (v := ?_) rfl (by kernel_rfl) (by kernel_rfl) (by kernel_rfl) (fun _ _ _ h => h) (Or.inl ⟨by rfl, ?_⟩) (by assumption) ?_
        rotate_left
        · intro w hSw
          (try dsimp only at hSw)
          first | (go_simp; done) | (go_simp; with_reducible rfl)
        (try simp only [Act.put, List.setIfInBounds_toArray, List.set_cons_zero, List.set_cons_succ])
        refine wpAnyH_take (i := 2) (oi := { dst := some 16, op := .call { callee := .builtin .len, args := #[.tmp 15], argTypes := #[25] }, type := 3, pos := "l08_pages.go:10", after := #[⟨1, .data⟩], guard := none }) (v := ?_) rfl (by kernel_rfl) (by kernel_rfl) (by kernel_rfl) (fun _ _ _ h => h) (Or.inl ⟨by rfl, ?_⟩) (by assumption) ?_
        rotate_left
        · intro w hSw
          (try dsimp only at hSw)
          first | (go_simp; done) | (go_simp; with_reducible rfl)
        (try simp only [Act.put, List.setIfInBounds_toArray, List.set_cons_zero, List.set_cons_succ])
        refine wpAnyH_take (i := 3) (oi := { dst := some 17, op := .binOp .lss 3 (.tmp 14) (.tmp 16) 3, type := 4, pos := "l08_pages.go:10", after := #[⟨0, .data⟩, ⟨2, .data⟩], guard := none }) (v := ?_) rfl (by kernel_rfl) (by kernel_rfl) (by kernel_rfl) (fun _ _ _ h => h) (Or.inl ⟨by rfl, ?_⟩) (by assumption) ?_
        rotate_left
        · intro w hSw
          (try dsimp only at hSw)
          first | (go_simp; done) | (go_simp; with_reducible rfl)
        (try simp only [Act.put, List.setIfInBounds_toArray, List.set_cons_zero, List.set_cons_succ])
        refine wpAnyH_take (i := 4) (oi := { dst := some 18, op := .move (.tmp 17), type := 4, pos := "l08_pages.go:10", after := #[⟨3, .data⟩], guard := none }) (v := ?_) rfl (by kernel_rfl) (by kernel_rfl) (by kernel_rfl) (fun _ _ _ h => h) (Or.inl ⟨by rfl, ?_⟩) (by assumption) ?_
        rotate_left
        · intro w hSw
          (try dsimp only at hSw)
          first | (go_simp; done) | (go_simp; with_reducible rfl)
        (try simp only [Act.put, List.setIfInBounds_toArray, List.set_cons_zero, List.set_cons_succ])
        refine wpAnyH_take (i := 5) (oi := { dst := some 19, op := .move (.tmp 3), type := 25, pos := "l08_pages.go:10", after := #[⟨4, .guard⟩], guard := some (4, true) }) (v := undef) rfl (by kernel_rfl) (by kernel_rfl) (by kernel_rfl) (fun _ _ _ h => h) (Or.inr ⟨by rfl, rfl⟩) (by assumption) ?_
        (try simp only [Act.put, List.setIfInBounds_toArray, List.set_cons_zero, List.set_cons_succ])
        refine wpAnyH_take (i := 6) (oi := { dst := some 20, op := .move (.tmp 5), type := 3, pos := "l08_pages.go:10", after := #[⟨4, .guard⟩], guard := some (4, true) }) (v := undef) rfl (by kernel_rfl) (by kernel_rfl) (by kernel_rfl) (fun _ _ _ h => h) (Or.inr ⟨by rfl, rfl⟩) (by assumption) ?_
        (try simp only [Act.put, List.setIfInBounds_toArray, List.set_cons_zero, List.set_cons_succ])
        refine wpAnyH_take (i := 7) (oi := { dst := some 21, op := .indexAddr 25 (.tmp 19) (.tmp 20), type := 0, pos := "l08_pages.go:10", after := #[⟨5, .data⟩, ⟨6, .data⟩, ⟨4, .guard⟩], guard := some (4, true) }) (v := undef) rfl (by kernel_rfl) (by kernel_rfl) (by kernel_rfl) (fun _ _ _ h => h) (Or.inr ⟨by rfl, rfl⟩) (by assumption) ?_
        (try simp only [Act.put, List.setIfInBounds_toArray, List.set_cons_zero, List.set_cons_succ])
        refine wpAnyH_take (i := 8) (oi := { dst := some 22, op := .load 34 (.tmp 21), type := 34, pos := "l08_pages.go:10", after := #[⟨7, .data⟩, ⟨4, .guard⟩], guard := some (4, true) }) (v := undef) rfl (by kernel_rfl) (by kernel_rfl) (by kernel_rfl) (fun _ _ _ h => h) (Or.inr ⟨by rfl, rfl⟩) (by assumption) ?_
        (try simp only [Act.put, List.setIfInBounds_toArray, List.set_cons_zero, List.set_cons_succ])
        refine wpAnyH_take (i := 9) (oi := { dst := some 23, op := .move (.tmp 0), type := 25, pos := "l08_pages.go:10", after := #[⟨4, .guard⟩], guard := some (4, true) }) (v := undef) rfl (by kernel_rfl) (by kernel_rfl) (by kernel_rfl) (fun _ _ _ h => h) (Or.inr ⟨by rfl, rfl⟩) (by assumption) ?_
        (try simp only [Act.put, List.setIfInBounds_toArray, List.set_cons_zero, List.set_cons_succ])
        refine wpAnyH_take (i := 10) (oi := { dst := some 24, op := .move (.tmp 4), type := 3, pos := "l08_pages.go:10", after := #[⟨4, .guard⟩], guard := some (4, true) }) (v := undef) rfl (by kernel_rfl) (by kernel_rfl) (by kernel_rfl) (fun _ _ _ h => h) (Or.inr ⟨by rfl, rfl⟩) (by assumption) ?_
        (try simp only [Act.put, List.setIfInBounds_toArray, List.set_cons_zero, List.set_cons_succ])
        refine wpAnyH_take (i := 11) (oi := { dst := some 25, op := .indexAddr 25 (.tmp 23) (.tmp 24), type := 0, pos := "l08_pages.go:10", after := #[⟨9, .data⟩, ⟨10, .data⟩, ⟨4, .guard⟩], guard := some (4, true) }) (v := undef) rfl (by kernel_rfl) (by kernel_rfl) (by kernel_rfl) (fun _ _ _ h => h) (Or.inr ⟨by rfl, rfl⟩) (by assumption) ?_
        (try simp only [Act.put, List.setIfInBounds_toArray, List.set_cons_zero, List.set_cons_succ])
        refine wpAnyH_take (i := 12) (oi := { dst := some 26, op := .load 34 (.tmp 25), type := 34, pos := "l08_pages.go:10", after := #[⟨11, .data⟩, ⟨4, .guard⟩], guard := some (4, true) }) (v := undef) rfl (by kernel_rfl) (by kernel_rfl) (by kernel_rfl) (fun _ _ _ h => h) (Or.inr ⟨by rfl, rfl⟩) (by assumption) ?_
        (try simp only [Act.put, List.setIfInBounds_toArray, List.set_cons_zero, List.set_cons_succ])
        refine wpAnyH_take (i := 13) (oi := { dst := some 27, op := .call { callee := .value (.func 159), args := #[.tmp 22, .tmp 26], argTypes := #[34, 34] }, type := 4, pos := "l08_pages.go:10", after := #[⟨8, .data⟩, ⟨12, .data⟩, ⟨4, .chain⟩, ⟨4, .guard⟩], guard := some (4, true) }) (v := undef) rfl (by kernel_rfl) (by kernel_rfl) (by kernel_rfl) (fun _ _ _ h => h) (Or.inr ⟨by rfl, rfl⟩) (by assumption) ?_
        (try simp only [Act.put, List.setIfInBounds_toArray, List.set_cons_zero, List.set_cons_succ])
        refine wpAnyH_take (i := 14) (oi := { dst := some 28, op := .pick (.tmp 18) (.tmp 27) (.const (Value.bool false)), type := 4, pos := "l08_pages.go:10", after := #[⟨4, .data⟩, ⟨13, .data⟩], guard := none }) (v := ?_) rfl (by kernel_rfl) (by kernel_rfl) (by kernel_rfl) (fun _ _ _ h => h) (Or.inl ⟨by rfl, ?_⟩) (by assumption) ?_
        rotate_left
        · intro w hSw
          (try dsimp only at hSw)
          first | (go_simp; done) | (go_simp; with_reducible rfl)
        (try simp only [Act.put, List.setIfInBounds_toArray, List.set_cons_zero, List.set_cons_succ])
        refine wpAnyH_done (by kernel_rfl) ?_ _
        have HRd : Hid (wr.drew.ownsRow w.heap.size 34 8 (.slice (some ⟨g, 0, none⟩) k oc) k (opCells L)) := HRi.out.drew
        have HBd : Hid (Below w.heap.size w wr.drew) := ⟨HBi.out.os, HBi.out.tape, HBi.out.output, HBi.out.size, HBi.out.block⟩
        clear hS hHeld d0 d1 d2 d3 d4 d5 d6 d7 HRi HBi
        generalize wr.drew = y0 at HRd HBd ⊢
        clear htke hdl hdl2
        have hgW : g < y0.heap.size := by have := (HRd.out.lt g rfl).2; exact this
        have hwW : w.heap.size ≤ y0.heap.size := HBd.out.size
        have hti : (0 : Int) ≤ (t : Int) := by omega
        have hto : (t : Int) ≤ (oc : Int) := by omega
        have htk' : (t : Int) ≤ (k : Int) := by omega
        have hE : (y0.alloc (.cells #[] 34)).ownsRow y0.heap.size 34 8 (.slice (some ⟨y0.heap.size, 0, none⟩) 0 0) 0 [] := World.ownsRow_made y0 #[] 0 (Nat.le_refl _) (by unfold maxLen; omega) rfl
        have hRa := HRd.out.alloc (.cells #[] 34)
        go_wp2_with (at_builtin; refine wpList_append_own _ rfl _ _ 25 rfl y0.heap.size 34 i0 (.agg #[.int .i64 0, .int .i64 0, .int .i64 0, .int .i64 0, .string ⟨#[]⟩, .int .i64 0, .int .i64 0, .int .i64 0]) 8 72 Try.underlying25 hi hz0 hz1 hz2 rfl (by decide) _ _ _ rfl hE ⟨g, 0, none⟩ t oc (opCells (L.take t)) rfl ?c0 ?c1 ?c2 ?c3 ?c4 ?c5 ?_)
        case c0 => rw [opCells_len, List.length_take, HLs.out, Nat.min_eq_left htk]
        case c1 => exact row_part hRa 0 t (by omega)
        case c2 => exact opCells_one _
        case c3 => unfold maxLen; omega
        case c4 => omega
        case c5 => simp
        intro v1 y1 hown1 hgrow1 hnn1
        have hR1 := row_kept_grown hRa hE hgrow1 hgW
        have HB1 := Lib.hid ((HBd.out.alloc hwW (.cells #[] 34)).grown hgrow1 (by simp; omega) (fun j hj => by have := (hE.lt j hj).1; omega))
        have hne1 : v1 ≠ .slice none 0 0 := fun e => by first | exact hnn1 e | exact absurd (hnn1.1 e).1 (by intro h; cases h)
        have hown1' : y1.ownsRow y0.heap.size 34 8 v1 t (opCells (L.take t)) := by simpa using hown1
        have hs1 : y0.heap.size ≤ y1.heap.size := by obtain ⟨_, _, _, q, q2, _⟩ := row_form hown1' hne1; omega
        have hx := HOk.out y1 HB1.out
        obtain ⟨d0, d1, d2, d3, d4, d5, d6, d7⟩ := hx
        have HR1 := Lib.hid hR1
        have hX1 := hown1'.alloc (.cells #[.int .i64 x.dev, .int .i64 x.seq, .int .i64 x.stamp, .int .i64 x.kind, .string x.item, .int .i64 x.qty, .int .i64 x.level, .int .i64 x.undos] 34)
        have hRb := hR1.alloc (.cells #[.int .i64 x.dev, .int .i64 x.seq, .int .i64 x.stamp, .int .i64 x.kind, .string x.item, .int .i64 x.qty, .int .i64 x.level, .int .i64 x.undos] 34)
        clear hown1 hgrow1 hnn1 hE hRa hR1 HRd HBd
        generalize y0.heap.size = bw at hown1' hX1 hgW hwW hs1
        go_wp2_with (at_builtin; refine wpList_append_own _ rfl _ _ 25 rfl bw 34 i0 (.agg #[.int .i64 0, .int .i64 0, .int .i64 0, .int .i64 0, .string ⟨#[]⟩, .int .i64 0, .int .i64 0, .int .i64 0]) 8 72 Try.underlying25 hi hz0 hz1 hz2 rfl (by decide) _ _ _ rfl hX1 ⟨y1.heap.size, 0, none⟩ 1 1 (opRow x) rfl ?c0 ?c1 ?c2 ?c3 ?c4 ?c5 ?_)
        case c0 => rfl
        case c1 => exact opRow_new y1 x
        case c2 =>
          intro u hu
          exact opCells_one [x] u (by show u ∈ opRow x ++ []; rw [List.append_nil]; exact hu)
        case c3 => unfold maxLen; omega
        case c4 => omega
        case c5 => simp; omega
        intro v2 y2 hown2 hgrow2 hnn2
        have hR2 := row_kept_grown hRb hX1 hgrow2 hgW
        have HB2 := Lib.hid ((HB1.out.alloc (by omega) (.cells #[.int .i64 x.dev, .int .i64 x.seq, .int .i64 x.stamp, .int .i64 x.kind, .string x.item, .int .i64 x.qty, .int .i64 x.level, .int .i64 x.undos] 34)).grown hgrow2 (by simp; omega) (fun j hj => by have := (hX1.lt j hj).1; omega))
        have hne2 : v2 ≠ .slice none 0 0 := fun e => by first | exact hnn2 e | exact hne1 (hnn2.1 e).1
        have hown2' : y2.ownsRow bw 34 8 v2 (t + 1) (opCells (L.take t ++ [x])) := by rw [opCells_snoc]; exact hown2
        have hs2 : bw ≤ y2.heap.size := by obtain ⟨_, _, _, q, q2, _⟩ := row_form hown2' hne2; omega
        clear hown2 hgrow2 hnn2 hX1 hRb HR1 HB1 d0 d1 d2 d3 d4 d5 d6 d7 hown1'
        have HIn : Hid (sortTo l (k + 1) = (L.take t ++ [x]) ++ L.drop t) := by show _ = _; rw [HSt.out]; unfold insO; rw [HCt.out]
        by_cases hct : oc = t
        · have hkt0 : k = t := by omega
          have hLd : L.drop t = [] := by rw [← hkt0, ← HLs.out]; exact List.drop_length
          have HLd := Lib.hid hLd
          clear hkt0 hLd
          go_wp2_with (at_builtin; refine wpList_append_own _ rfl _ _ 25 rfl bw 34 i0 (.agg #[.int .i64 0, .int .i64 0, .int .i64 0, .int .i64 0, .string ⟨#[]⟩, .int .i64 0, .int .i64 0, .int .i64 0]) 8 72 Try.underlying25 hi hz0 hz1 hz2 rfl (by decide) _ _ _ rfl hown2' ⟨g, 0, none⟩ (k - t) _ (opCells (L.drop t)) rfl ?c0 ?c1 ?c2 ?c3 ?c4 ?c5 ?_)
          case c0 => rw [opCells_len, List.length_drop, HLs.out]
          case c1 => intro j u hj; rw [HLd.out] at hj; cases hj
          case c2 => exact opCells_one _
          case c3 => unfold maxLen; omega
          case c4 => omega
          case c5 => omega
          intro v3 y3 hown3 hgrow3 hnn3
          have HB3 := Lib.hid (HB2.out.grown hgrow3 (by omega) (fun j hj => by have := (hown2'.lt j hj).1; omega))
          have hkt : t + 1 + (k - t) = k + 1 := by omega
          have HR3 : Hid (y3.ownsRow w.heap.size 34 8 v3 (k + 1) (opCells (sortTo l (k + 1)))) := by
            show World.ownsRow _ _ _ _ _ _ _
            rw [HIn.out, opCells_app]
            rw [hkt] at hown3
            exact hown3.mono hwW
          have hn3 : v3 ≠ .slice none 0 0 := fun e => by first | exact hnn3 e | exact hne2 (hnn3.1 e).1
          have HN3 := Lib.hid hn3
          clear hn3
          clear hown3 hgrow3 hnn3 hown2' hR2 hkt
          go_wp2
          go_roundw
          case rel => exact ⟨k + 1, _, by omega, rfl, by go_num, HN3, HR3, HB3⟩
          case measure => simp [intOf]; omega
        · have hct2 : ¬ (oc : Int) = (t : Int) := by omega
          go_wp2_with (at_builtin; refine wpList_append_own _ rfl _ _ 25 rfl bw 34 i0 (.agg #[.int .i64 0, .int .i64 0, .int .i64 0, .int .i64 0, .string ⟨#[]⟩, .int .i64 0, .int .i64 0, .int .i64 0]) 8 72 Try.underlying25 hi hz0 hz1 hz2 rfl (by decide) _ _ _ rfl hown2' ⟨g, t * 8, none⟩ (k - t) _ (opCells (L.drop t)) rfl ?c0 ?c1 ?c2 ?c3 ?c4 ?c5 ?_)
          case c0 => rw [opCells_len, List.length_drop, HLs.out]
          case c1 => have := row_part hR2 t (k - t) (by omega); rw [Nat.zero_add] at this; have e : (L.drop t).take (k - t) = L.drop t := List.take_of_length_le (by rw [List.length_drop, HLs.out]; exact Nat.le_refl _); rw [e] at this; exact this
          case c2 => exact opCells_one _
          case c3 => unfold maxLen; omega
          case c4 => omega
          case c5 => omega
          intro v3 y3 hown3 hgrow3 hnn3
          have HB3 := Lib.hid (HB2.out.grown hgrow3 (by omega) (fun j hj => by have := (hown2'.lt j hj).1; omega))
          have hkt : t + 1 + (k - t) = k + 1 := by omega
          have HR3 : Hid (y3.ownsRow w.heap.size 34 8 v3 (k + 1) (opCells (sortTo l (k + 1)))) := by
            show World.ownsRow _ _ _ _ _ _ _
            rw [HIn.out, opCells_app]
            rw [hkt] at hown3
            exact hown3.mono hwW
          have hn3 : v3 ≠ .slice none 0 0 := fun e => by first | exact hnn3 e | exact hne2 (hnn3.1 e).1
          have HN3 := Lib.hid hn3
          clear hn3
          clear hown3 hgrow3 hnn3 hown2' hR2 hkt
          go_wp2
          go_roundw
          case rel => exact ⟨k + 1, _, by omega, rfl, by go_num, HN3, HR3, HB3⟩
          case measure => simp [intOf]; omega
      have hei : (t : Int) < (k : Int) := by omega
      have HOy := Lib.hid (row_op HRi.out hend)
      have HTs : Hid (befO (atOp L t) x = true → ∀ j, j < t + 1 → befO (atOp L j) x = true) := fun h j hj => by
        rcases Nat.lt_or_ge j t with h1 | h1
        · exact HT.out j h1
        · obtain rfl : j = t := by omega
          exact h
      have HCf : Hid (befO (atOp L t) x = false → cntO L x = t) := fun h => cnt_end HT.out (fun _ => h) (by rw [HLs.out]; omega)
      have HBy : Hid (befO (atOp L t) x = preB (atOp L t).stamp (atOp L t).dev (atOp L t).seq x.stamp x.dev x.seq) := rfl
      generalize atOp L t = y at HOy HTs HCf HBy
      obtain ⟨e0, e1, e2, e3, e4, e5, e6, e7⟩ := HOy.out
      have hS : wr.drew.cell? ⟨b, off + k * 8, none⟩ = some (.int .i64 x.dev) ∧ wr.drew.cell? ⟨b, off + k * 8 + 1, none⟩ = some (.int .i64 x.seq) ∧ wr.drew.cell? ⟨b, off + k * 8 + 2, none⟩ = some (.int .i64 x.stamp) ∧ wr.drew.cell? ⟨b, off + k * 8 + 3, none⟩ = some (.int .i64 x.kind) ∧ wr.drew.cell? ⟨b, off + k * 8 + 4, none⟩ = some (.string x.item) ∧ wr.drew.cell? ⟨b, off + k * 8 + 5, none⟩ = some (.int .i64 x.qty) ∧ wr.drew.cell? ⟨b, off + k * 8 + 6, none⟩ = some (.int .i64 x.level) ∧ wr.drew.cell? ⟨b, off + k * 8 + 7, none⟩ = some (.int .i64 x.undos) ∧ wr.drew.cell? ⟨g, t * 8, none⟩ = some (.int .i64 y.dev) ∧ wr.drew.cell? ⟨g, t * 8 + 1, none⟩ = some (.int .i64 y.seq) ∧ wr.drew.cell? ⟨g, t * 8 + 2, none⟩ = some (.int .i64 y.stamp) ∧ wr.drew.cell? ⟨g, t * 8 + 3, none⟩ = some (.int .i64 y.kind) ∧ wr.drew.cell? ⟨g, t * 8 + 4, none⟩ = some (.string y.item) ∧ wr.drew.cell? ⟨g, t * 8 + 5, none⟩ = some (.int .i64 y.qty) ∧ wr.drew.cell? ⟨g, t * 8 + 6, none⟩ = some (.int .i64 y.level) ∧ wr.drew.cell? ⟨g, t * 8 + 7, none⟩ = some (.int .i64 y.undos) := ⟨d0, d1, d2, d3, d4, d5, d6, d7, e0, e1, e2, e3, e4, e5, e6, e7⟩
      go_wp2_with fail
      refine wp_region_held_drew (S := fun w' => w'.cell? ⟨b, off + k * 8, none⟩ = some (.int .i64 x.dev) ∧ w'.cell? ⟨b, off + k * 8 + 1, none⟩ = some (.int .i64 x.seq) ∧ w'.cell? ⟨b, off + k * 8 + 2, none⟩ = some (.int .i64 x.stamp) ∧ w'.cell? ⟨b, off + k * 8 + 3, none⟩ = some (.int .i64 x.kind) ∧ w'.cell? ⟨b, off + k * 8 + 4, none⟩ = some (.string x.item) ∧ w'.cell? ⟨b, off + k * 8 + 5, none⟩ = some (.int .i64 x.qty) ∧ w'.cell? ⟨b, off + k * 8 + 6, none⟩ = some (.int .i64 x.level) ∧ w'.cell? ⟨b, off + k * 8 + 7, none⟩ = some (.int .i64 x.undos) ∧ w'.cell? ⟨g, t * 8, none⟩ = some (.int .i64 y.dev) ∧ w'.cell? ⟨g, t * 8 + 1, none⟩ = some (.int .i64 y.seq) ∧ w'.cell? ⟨g, t * 8 + 2, none⟩ = some (.int .i64 y.stamp) ∧ w'.cell? ⟨g, t * 8 + 3, none⟩ = some (.int .i64 y.kind) ∧ w'.cell? ⟨g, t * 8 + 4, none⟩ = some (.string y.item) ∧ w'.cell? ⟨g, t * 8 + 5, none⟩ = some (.int .i64 y.qty) ∧ w'.cell? ⟨g, t * 8 + 6, none⟩ = some (.int .i64 y.level) ∧ w'.cell? ⟨g, t * 8 + 7, none⟩ = some (.int .i64 y.undos)) (by kernel_rfl) hS (fun hHeld => ?_)
      refine wpAnyH_take (i := 0) (oi := { dst := some 14, op := .move (.tmp 5), type := 3, pos := "l08_pages.go:10", after := #[], guard := none }) (v := ?_) rfl (by kernel_rfl) (by kernel_rfl) (by kernel_rfl) (fun _ _ _ h => h) (Or.inl ⟨by rfl, ?_⟩) (by assumption) ?_
      rotate_left
      · intro w hSw
        (try dsimp only at hSw)
        first | (go_simp; done) | (go_simp; with_reducible rfl)
      (try simp only [Act.put, List.setIfInBounds_toArray, List.set_cons_zero, List.set_cons_succ])
      refine wpAnyH_take (i := 1) (oi := { dst := some 15, op := .move (.tmp 3), type := 25, pos := "l08_pages.go:10", after := #[], guard := none }) (v := ?_) rfl (by kernel_rfl) (by kernel_rfl) (by kernel_rfl) (fun _ _ _ h => h) (Or.inl ⟨by rfl, ?_⟩) (by assumption) ?_
      rotate_left
      · intro w hSw
        (try dsimp only at hSw)
        first | (go_simp; done) | (go_simp; with_reducible rfl)
      (try simp only [Act.put, List.setIfInBounds_toArray, List.set_cons_zero, List.set_cons_succ])
      refine wpAnyH_take (i := 2) (oi := { dst := some 16, op := .call { callee := .builtin .len, args := #[.tmp 15], argTypes := #[25] }, type := 3, pos := "l08_pages.go:10", after := #[⟨1, .data⟩], guard := none }) (v := ?_) rfl (by kernel_rfl) (by kernel_rfl) (by kernel_rfl) (fun _ _ _ h => h) (Or.inl ⟨by rfl, ?_⟩) (by assumption) ?_
      rotate_left
      · intro w hSw
        (try dsimp only at hSw)
        first | (go_simp; done) | (go_simp; with_reducible rfl)
      (try simp only [Act.put, List.setIfInBounds_toArray, List.set_cons_zero, List.set_cons_succ])
      refine wpAnyH_take (i := 3) (oi := { dst := some 17, op := .binOp .lss 3 (.tmp 14) (.tmp 16) 3, type := 4, pos := "l08_pages.go:10", after := #[⟨0, .data⟩, ⟨2, .data⟩], guard := none }) (v := ?_) rfl (by kernel_rfl) (by kernel_rfl) (by kernel_rfl) (fun _ _ _ h => h) (Or.inl ⟨by rfl, ?_⟩) (by assumption) ?_
      rotate_left
      · intro w hSw
        (try dsimp only at hSw)
        first | (go_simp; done) | (go_simp; with_reducible rfl)
      (try simp only [Act.put, List.setIfInBounds_toArray, List.set_cons_zero, List.set_cons_succ])
      refine wpAnyH_take (i := 4) (oi := { dst := some 18, op := .move (.tmp 17), type := 4, pos := "l08_pages.go:10", after := #[⟨3, .data⟩], guard := none }) (v := ?_) rfl (by kernel_rfl) (by kernel_rfl) (by kernel_rfl) (fun _ _ _ h => h) (Or.inl ⟨by rfl, ?_⟩) (by assumption) ?_
      rotate_left
      · intro w hSw
        (try dsimp only at hSw)
        first | (go_simp; done) | (go_simp; with_reducible rfl)
      (try simp only [Act.put, List.setIfInBounds_toArray, List.set_cons_zero, List.set_cons_succ])
      refine wpAnyH_take (i := 5) (oi := { dst := some 19, op := .move (.tmp 3), type := 25, pos := "l08_pages.go:10", after := #[⟨4, .guard⟩], guard := some (4, true) }) (v := ?_) rfl (by kernel_rfl) (by kernel_rfl) (by kernel_rfl) (fun _ _ _ h => h) (Or.inl ⟨by rfl, ?_⟩) (by assumption) ?_
      rotate_left
      · intro w hSw
        (try dsimp only at hSw)
        first | (go_simp; done) | (go_simp; with_reducible rfl)
      (try simp only [Act.put, List.setIfInBounds_toArray, List.set_cons_zero, List.set_cons_succ])
      refine wpAnyH_take (i := 6) (oi := { dst := some 20, op := .move (.tmp 5), type := 3, pos := "l08_pages.go:10", after := #[⟨4, .guard⟩], guard := some (4, true) }) (v := ?_) rfl (by kernel_rfl) (by kernel_rfl) (by kernel_rfl) (fun _ _ _ h => h) (Or.inl ⟨by rfl, ?_⟩) (by assumption) ?_
      rotate_left
      · intro w hSw
        (try dsimp only at hSw)
        first | (go_simp; done) | (go_simp; with_reducible rfl)
      (try simp only [Act.put, List.setIfInBounds_toArray, List.set_cons_zero, List.set_cons_succ])
      refine wpAnyH_take (i := 7) (oi := { dst := some 21, op := .indexAddr 25 (.tmp 19) (.tmp 20), type := 0, pos := "l08_pages.go:10", after := #[⟨5, .data⟩, ⟨6, .data⟩, ⟨4, .guard⟩], guard := some (4, true) }) (v := ?_) rfl (by kernel_rfl) (by kernel_rfl) (by kernel_rfl) (fun _ _ _ h => h) (Or.inl ⟨by rfl, ?_⟩) (by assumption) ?_
      rotate_left
      · intro w hSw
        (try dsimp only at hSw)
        first | (go_simp; done) | (go_simp; with_reducible rfl)
      (try simp only [Act.put, List.setIfInBounds_toArray, List.set_cons_zero, List.set_cons_succ])
      refine wpAnyH_take (i := 8) (oi := { dst := some 22, op := .load 34 (.tmp 21), type := 34, pos := "l08_pages.go:10", after := #[⟨7, .data⟩, ⟨4, .guard⟩], guard := some (4, true) }) (v := ?_) rfl (by kernel_rfl) (by kernel_rfl) (by kernel_rfl) (fun _ _ _ h => h) (Or.inl ⟨by rfl, ?_⟩) (by assumption) ?_
      rotate_left
      · intro w hSw
        (try dsimp only at hSw)
        first | (go_simp; done) | (go_simp; with_reducible rfl)
      (try simp only [Act.put, List.setIfInBounds_toArray, List.set_cons_zero, List.set_cons_succ])
      refine wpAnyH_take (i := 9) (oi := { dst := some 23, op := .move (.tmp 0), type := 25, pos := "l08_pages.go:10", after := #[⟨4, .guard⟩], guard := some (4, true) }) (v := ?_) rfl (by kernel_rfl) (by kernel_rfl) (by kernel_rfl) (fun _ _ _ h => h) (Or.inl ⟨by rfl, ?_⟩) (by assumption) ?_
      rotate_left
      · intro w hSw
        (try dsimp only at hSw)
        first | (go_simp; done) | (go_simp; with_reducible rfl)
      (try simp only [Act.put, List.setIfInBounds_toArray, List.set_cons_zero, List.set_cons_succ])
      refine wpAnyH_take (i := 10) (oi := { dst := some 24, op := .move (.tmp 4), type := 3, pos := "l08_pages.go:10", after := #[⟨4, .guard⟩], guard := some (4, true) }) (v := ?_) rfl (by kernel_rfl) (by kernel_rfl) (by kernel_rfl) (fun _ _ _ h => h) (Or.inl ⟨by rfl, ?_⟩) (by assumption) ?_
      rotate_left
      · intro w hSw
        (try dsimp only at hSw)
        first | (go_simp; done) | (go_simp; with_reducible rfl)
      (try simp only [Act.put, List.setIfInBounds_toArray, List.set_cons_zero, List.set_cons_succ])
      refine wpAnyH_take (i := 11) (oi := { dst := some 25, op := .indexAddr 25 (.tmp 23) (.tmp 24), type := 0, pos := "l08_pages.go:10", after := #[⟨9, .data⟩, ⟨10, .data⟩, ⟨4, .guard⟩], guard := some (4, true) }) (v := ?_) rfl (by kernel_rfl) (by kernel_rfl) (by kernel_rfl) (fun _ _ _ h => h) (Or.inl ⟨by rfl, ?_⟩) (by assumption) ?_
      rotate_left
      · intro w hSw
        (try dsimp only at hSw)
        first | (go_simp; done) | (go_simp; with_reducible rfl)
      (try simp only [Act.put, List.setIfInBounds_toArray, List.set_cons_zero, List.set_cons_succ])
      refine wpAnyH_take (i := 12) (oi := { dst := some 26, op := .load 34 (.tmp 25), type := 34, pos := "l08_pages.go:10", after := #[⟨11, .data⟩, ⟨4, .guard⟩], guard := some (4, true) }) (v := ?_) rfl (by kernel_rfl) (by kernel_rfl) (by kernel_rfl) (fun _ _ _ h => h) (Or.inl ⟨by rfl, ?_⟩) (by assumption) ?_
      rotate_left
      · intro w hSw
        (try dsimp only at hSw)
        first | (go_simp; done) | (go_simp; with_reducible rfl)
      (try simp only [Act.put, List.setIfInBounds_toArray, List.set_cons_zero, List.set_cons_succ])
      refine wpAnyH_ready (rs := [13]) (by kernel_rfl) (by simp) ?_
      refine AllReadyH.cons (o := { dst := some 27, op := .call { callee := .value (.func 159), args := #[.tmp 22, .tmp 26], argTypes := #[34, 34] }, type := 4, pos := "l08_pages.go:10", after := #[⟨8, .data⟩, ⟨12, .data⟩, ⟨4, .chain⟩, ⟨4, .guard⟩], guard := some (4, true) }) rfl (fun K hK => ?_) AllReadyH.nil
      go_simp
      go_at_call 159
      refine (l3Before y.dev y.seq y.stamp y.kind y.item y.qty y.level y.undos x.dev x.seq x.stamp x.kind x.item x.qty x.level x.undos _).mono ?_
      rintro e z1 ⟨rfl, hbz1⟩
      rw [← HBy.out]
      have hS1 : z1.cell? ⟨b, off + k * 8, none⟩ = some (.int .i64 x.dev) ∧ z1.cell? ⟨b, off + k * 8 + 1, none⟩ = some (.int .i64 x.seq) ∧ z1.cell? ⟨b, off + k * 8 + 2, none⟩ = some (.int .i64 x.stamp) ∧ z1.cell? ⟨b, off + k * 8 + 3, none⟩ = some (.int .i64 x.kind) ∧ z1.cell? ⟨b, off + k * 8 + 4, none⟩ = some (.string x.item) ∧ z1.cell? ⟨b, off + k * 8 + 5, none⟩ = some (.int .i64 x.qty) ∧ z1.cell? ⟨b, off + k * 8 + 6, none⟩ = some (.int .i64 x.level) ∧ z1.cell? ⟨b, off + k * 8 + 7, none⟩ = some (.int .i64 x.undos) ∧ z1.cell? ⟨g, t * 8, none⟩ = some (.int .i64 y.dev) ∧ z1.cell? ⟨g, t * 8 + 1, none⟩ = some (.int .i64 y.seq) ∧ z1.cell? ⟨g, t * 8 + 2, none⟩ = some (.int .i64 y.stamp) ∧ z1.cell? ⟨g, t * 8 + 3, none⟩ = some (.int .i64 y.kind) ∧ z1.cell? ⟨g, t * 8 + 4, none⟩ = some (.string y.item) ∧ z1.cell? ⟨g, t * 8 + 5, none⟩ = some (.int .i64 y.qty) ∧ z1.cell? ⟨g, t * 8 + 6, none⟩ = some (.int .i64 y.level) ∧ z1.cell? ⟨g, t * 8 + 7, none⟩ = some (.int .i64 y.undos) := by
        obtain ⟨q0, q1, q2, q3, q4, q5, q6, q7, q8, q9, q10, q11, q12, q13, q14, q15⟩ := hS
        exact ⟨(hbz1.cell (block_lt_of_cell q0)).trans q0, (hbz1.cell (block_lt_of_cell q1)).trans q1, (hbz1.cell (block_lt_of_cell q2)).trans q2, (hbz1.cell (block_lt_of_cell q3)).trans q3, (hbz1.cell (block_lt_of_cell q4)).trans q4, (hbz1.cell (block_lt_of_cell q5)).trans q5, (hbz1.cell (block_lt_of_cell q6)).trans q6, (hbz1.cell (block_lt_of_cell q7)).trans q7, (hbz1.cell (block_lt_of_cell q8)).trans q8, (hbz1.cell (block_lt_of_cell q9)).trans q9, (hbz1.cell (block_lt_of_cell q10)).trans q10, (hbz1.cell (block_lt_of_cell q11)).trans q11, (hbz1.cell (block_lt_of_cell q12)).trans q12, (hbz1.cell (block_lt_of_cell q13)).trans q13, (hbz1.cell (block_lt_of_cell q14)).trans q14, (hbz1.cell (block_lt_of_cell q15)).trans q15⟩
      refine hK.out _ _ hS1 (fun hHeld2 => ?_)
      clear hK K
      (try simp only [Act.put, List.setIfInBounds_toArray, List.set_cons_zero, List.set_cons_succ])
      refine wpAnyH_take (i := 14) (oi := { dst := some 28, op := .pick (.tmp 18) (.tmp 27) (.const (Value.bool false)), type := 4, pos := "l08_pages.go:10", after := #[⟨4, .data⟩, ⟨13, .data⟩], guard := none }) (v := ?_) rfl (by kernel_rfl) (by kernel_rfl) (by kernel_rfl) (fun _ _ _ h => h) (Or.inl ⟨by rfl, ?_⟩) (by assumption) ?_
      rotate_left
      · intro w hSw
        (try dsimp only at hSw)
        first | (go_simp; done) | (go_simp; with_reducible rfl)
      (try simp only [Act.put, List.setIfInBounds_toArray, List.set_cons_zero, List.set_cons_succ])
      refine wpAnyH_done (by kernel_rfl) ?_ _
      have hc1 : Below wr.heap.size wr z1 := Below.mk hbz1.os hbz1.tape hbz1.output hbz1.size hbz1.block
      have HBz := Lib.hid (HBi.out.trans (hc1.mono HBi.out.size))
      have HRz := Lib.hid (own_row_kept HRi.out hc1)
      clear hS hS1 hHeld hHeld2 hbz1 hc1 d0 d1 d2 d3 d4 d5 d6 d7 e0 e1 e2 e3 e4 e5 e6 e7 HRi HBi
      rcases hbf : befO y x with _ | _
      rotate_left
      · have HTn := Lib.hid (HTs.out hbf)
        go_wp2
        go_roundw
        case rel => exact ⟨t + 1, by omega, by go_num, HTn, HRz, HBz⟩
        case measure => simp [intOf]; omega
      have HCt := Lib.hid (HCf.out hbf)
      clear hbf
      have hgW : g < z1.heap.size := by have := (HRz.out.lt g rfl).2; exact this
      have hwW : w.heap.size ≤ z1.heap.size := HBz.out.size
      have hti : (0 : Int) ≤ (t : Int) := by omega
      have hto : (t : Int) ≤ (oc : Int) := by omega
      have htk' : (t : Int) ≤ (k : Int) := by omega
      have hE : (z1.alloc (.cells #[] 34)).ownsRow z1.heap.size 34 8 (.slice (some ⟨z1.heap.size, 0, none⟩) 0 0) 0 [] := World.ownsRow_made z1 #[] 0 (Nat.le_refl _) (by unfold maxLen; omega) rfl
      have hRa := HRz.out.alloc (.cells #[] 34)
      go_wp2_with (at_builtin; refine wpList_append_own _ rfl _ _ 25 rfl z1.heap.size 34 i0 (.agg #[.int .i64 0, .int .i64 0, .int .i64 0, .int .i64 0, .string ⟨#[]⟩, .int .i64 0, .int .i64 0, .int .i64 0]) 8 72 Try.underlying25 hi hz0 hz1 hz2 rfl (by decide) _ _ _ rfl hE ⟨g, 0, none⟩ t oc (opCells (L.take t)) rfl ?c0 ?c1 ?c2 ?c3 ?c4 ?c5 ?_)
      case c0 => rw [opCells_len, List.length_take, HLs.out, Nat.min_eq_left htk]
      case c1 => exact row_part hRa 0 t (by omega)
      case c2 => exact opCells_one _
      case c3 => unfold maxLen; omega
      case c4 => omega
      case c5 => simp
      intro v1 y1 hown1 hgrow1 hnn1
      have hR1 := row_kept_grown hRa hE hgrow1 hgW
      have HB1 := Lib.hid ((HBz.out.alloc hwW (.cells #[] 34)).grown hgrow1 (by simp; omega) (fun j hj => by have := (hE.lt j hj).1; omega))
      have hne1 : v1 ≠ .slice none 0 0 := fun e => by first | exact hnn1 e | exact absurd (hnn1.1 e).1 (by intro h; cases h)
      have hown1' : y1.ownsRow z1.heap.size 34 8 v1 t (opCells (L.take t)) := by simpa using hown1
      have hs1 : z1.heap.size ≤ y1.heap.size := by obtain ⟨_, _, _, q, q2, _⟩ := row_form hown1' hne1; omega
      have hx := HOk.out y1 HB1.out
      obtain ⟨d0, d1, d2, d3, d4, d5, d6, d7⟩ := hx
      have HR1 := Lib.hid hR1
      have hX1 := hown1'.alloc (.cells #[.int .i64 x.dev, .int .i64 x.seq, .int .i64 x.stamp, .int .i64 x.kind, .string x.item, .int .i64 x.qty, .int .i64 x.level, .int .i64 x.undos] 34)
      have hRb := hR1.alloc (.cells #[.int .i64 x.dev, .int .i64 x.seq, .int .i64 x.stamp, .int .i64 x.kind, .string x.item, .int .i64 x.qty, .int .i64 x.level, .int .i64 x.undos] 34)
      clear hown1 hgrow1 hnn1 hE hRa hR1 HRz HBz
      generalize z1.heap.size = bw at hown1' hX1 hgW hwW hs1
      go_wp2_with (at_builtin; refine wpList_append_own _ rfl _ _ 25 rfl bw 34 i0 (.agg #[.int .i64 0, .int .i64 0, .int .i64 0, .int .i64 0, .string ⟨#[]⟩, .int .i64 0, .int .i64 0, .int .i64 0]) 8 72 Try.underlying25 hi hz0 hz1 hz2 rfl (by decide) _ _ _ rfl hX1 ⟨y1.heap.size, 0, none⟩ 1 1 (opRow x) rfl ?c0 ?c1 ?c2 ?c3 ?c4 ?c5 ?_)
      case c0 => rfl
      case c1 => exact opRow_new y1 x
      case c2 =>
        intro u hu
        exact opCells_one [x] u (by show u ∈ opRow x ++ []; rw [List.append_nil]; exact hu)
      case c3 => unfold maxLen; omega
      case c4 => omega
      case c5 => simp; omega
      intro v2 y2 hown2 hgrow2 hnn2
      have hR2 := row_kept_grown hRb hX1 hgrow2 hgW
      have HB2 := Lib.hid ((HB1.out.alloc (by omega) (.cells #[.int .i64 x.dev, .int .i64 x.seq, .int .i64 x.stamp, .int .i64 x.kind, .string x.item, .int .i64 x.qty, .int .i64 x.level, .int .i64 x.undos] 34)).grown hgrow2 (by simp; omega) (fun j hj => by have := (hX1.lt j hj).1; omega))
      have hne2 : v2 ≠ .slice none 0 0 := fun e => by first | exact hnn2 e | exact hne1 (hnn2.1 e).1
      have hown2' : y2.ownsRow bw 34 8 v2 (t + 1) (opCells (L.take t ++ [x])) := by rw [opCells_snoc]; exact hown2
      have hs2 : bw ≤ y2.heap.size := by obtain ⟨_, _, _, q, q2, _⟩ := row_form hown2' hne2; omega
      clear hown2 hgrow2 hnn2 hX1 hRb HR1 HB1 d0 d1 d2 d3 d4 d5 d6 d7 hown1'
      have HIn : Hid (sortTo l (k + 1) = (L.take t ++ [x]) ++ L.drop t) := by show _ = _; rw [HSt.out]; unfold insO; rw [HCt.out]
      by_cases hct : oc = t
      · have hkt0 : k = t := by omega
        have hLd : L.drop t = [] := by rw [← hkt0, ← HLs.out]; exact List.drop_length
        have HLd := Lib.hid hLd
        clear hkt0 hLd
        go_wp2_with (at_builtin; refine wpList_append_own _ rfl _ _ 25 rfl bw 34 i0 (.agg #[.int .i64 0, .int .i64 0, .int .i64 0, .int .i64 0, .string ⟨#[]⟩, .int .i64 0, .int .i64 0, .int .i64 0]) 8 72 Try.underlying25 hi hz0 hz1 hz2 rfl (by decide) _ _ _ rfl hown2' ⟨g, 0, none⟩ (k - t) _ (opCells (L.drop t)) rfl ?c0 ?c1 ?c2 ?c3 ?c4 ?c5 ?_)
        case c0 => rw [opCells_len, List.length_drop, HLs.out]
        case c1 => intro j u hj; rw [HLd.out] at hj; cases hj
        case c2 => exact opCells_one _
        case c3 => unfold maxLen; omega
        case c4 => omega
        case c5 => omega
        intro v3 y3 hown3 hgrow3 hnn3
        have HB3 := Lib.hid (HB2.out.grown hgrow3 (by omega) (fun j hj => by have := (hown2'.lt j hj).1; omega))
        have hkt : t + 1 + (k - t) = k + 1 := by omega
        have HR3 : Hid (y3.ownsRow w.heap.size 34 8 v3 (k + 1) (opCells (sortTo l (k + 1)))) := by
          show World.ownsRow _ _ _ _ _ _ _
          rw [HIn.out, opCells_app]
          rw [hkt] at hown3
          exact hown3.mono hwW
        have hn3 : v3 ≠ .slice none 0 0 := fun e => by first | exact hnn3 e | exact hne2 (hnn3.1 e).1
        have HN3 := Lib.hid hn3
        clear hn3
        clear hown3 hgrow3 hnn3 hown2' hR2 hkt
        go_wp2
        go_roundw
        case rel => exact ⟨k + 1, _, by omega, rfl, by go_num, HN3, HR3, HB3⟩
        case measure => simp [intOf]; omega
      · have hct2 : ¬ (oc : Int) = (t : Int) := by omega
        go_wp2_with (at_builtin; refine wpList_append_own _ rfl _ _ 25 rfl bw 34 i0 (.agg #[.int .i64 0, .int .i64 0, .int .i64 0, .int .i64 0, .string ⟨#[]⟩, .int .i64 0, .int .i64 0, .int .i64 0]) 8 72 Try.underlying25 hi hz0 hz1 hz2 rfl (by decide) _ _ _ rfl hown2' ⟨g, t * 8, none⟩ (k - t) _ (opCells (L.drop t)) rfl ?c0 ?c1 ?c2 ?c3 ?c4 ?c5 ?_)
        case c0 => rw [opCells_len, List.length_drop, HLs.out]
        case c1 => have := row_part hR2 t (k - t) (by omega); rw [Nat.zero_add] at this; have e : (L.drop t).take (k - t) = L.drop t := List.take_of_length_le (by rw [List.length_drop, HLs.out]; exact Nat.le_refl _); rw [e] at this; exact this
        case c2 => exact opCells_one _
        case c3 => unfold maxLen; omega
        case c4 => omega
        case c5 => omega
        intro v3 y3 hown3 hgrow3 hnn3
        have HB3 := Lib.hid (HB2.out.grown hgrow3 (by omega) (fun j hj => by have := (hown2'.lt j hj).1; omega))
        have hkt : t + 1 + (k - t) = k + 1 := by omega
        have HR3 : Hid (y3.ownsRow w.heap.size 34 8 v3 (k + 1) (opCells (sortTo l (k + 1)))) := by
          show World.ownsRow _ _ _ _ _ _ _
          rw [HIn.out, opCells_app]
          rw [hkt] at hown3
          exact hown3.mono hwW
        have hn3 : v3 ≠ .slice none 0 0 := fun e => by first | exact hnn3 e | exact hne2 (hnn3.1 e).1
        have HN3 := Lib.hid hn3
        clear hn3
        clear hown3 hgrow3 hnn3 hown2' hR2 hkt
        go_wp2
        go_roundw
        case rel => exact ⟨k + 1, _, by omega, rfl, by go_num, HN3, HR3, HB3⟩
        case measure => simp [intOf]; omega
end Go.Proofs.Ytmceofdknphgkaa
