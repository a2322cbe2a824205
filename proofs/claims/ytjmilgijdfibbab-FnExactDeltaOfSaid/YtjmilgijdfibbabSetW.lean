/- The walks of spec.l4Same and impl.opSetOf. -/
import Derived.Test.YtjmilgijdfibbabJoinW
import Derived.Deep.RegionHeld3
import Derived.Deep.Cut
namespace Go.Proofs.Ytjmilgijdfibbab
open Go.RowKit


set_option linter.unusedSimpArgs false in
set_option maxRecDepth 100000 in
set_option maxHeartbeats 4000000 in
theorem l4Same (a b : OpV) (w : World) : Calls Try.prog 80 #[.agg #[.int .i64 a.dev, .int .i64 a.seq, .int .i64 a.stamp, .int .i64 a.kind, .string a.item, .int .i64 a.qty, .int .i64 a.level, .int .i64 a.undos], .agg #[.int .i64 b.dev, .int .i64 b.seq, .int .i64 b.stamp, .int .i64 b.kind, .string b.item, .int .i64 b.qty, .int .i64 b.level, .int .i64 b.undos]] w fun e w' => e = .returned (.bool (sameB a b)) ∧ Below w.heap.size w w' := by
  have HS : Hid (sameB a b = (a.dev == b.dev && (a.seq == b.seq && (a.stamp == b.stamp && (a.kind == b.kind && (a.item.toList == b.item.toList && (a.qty == b.qty && a.level == b.level))))))) := rfl
  go_enter Try.func80, Try.ntmps80
  go_wp2
  all_goals
    go_ret
    refine ⟨?_, ((Below.refl _ w).alloc (Nat.le_refl _) _).alloc (by simp) _⟩
    rw [HS.out]
    simp_all
theorem cell_of_block {w w' : World} {b i : Nat} (h : w'.heap[b]? = w.heap[b]?) : w'.cell? ⟨b, i, none⟩ = w.cell? ⟨b, i, none⟩ := by unfold World.cell?; rw [h]
/-- What the first k operations of a list lay under each name. -/
def setF (l : List OpV) : Nat → Int → Int → Option OpV
  | 0 => fun _ _ => none
  | k + 1 => putF (setF l k) (atOp l k)
def SetPost (l : List OpV) (n : Nat) (w : World) (e : Ending) (w' : World) : Prop := ∃ b, e = .returned (.map (some b)) ∧ w.heap.size ≤ b ∧ SetIs w' b n (setF l n) ∧ Below w.heap.size w w'
set_option linter.unusedSimpArgs false in
set_option maxRecDepth 100000 in
set_option maxHeartbeats 8000000 in
theorem opSetOf (w : World) (B : Nat) (a : Option Addr) (n c : Nat) (l : List OpV) (h : Ops w B a n l) (hB : B ≤ w.heap.size) (hn : n ≤ 1048576) (hf : ∀ i, i < n → Fit2 (atOp l i).dev (atOp l i).seq) :
    Calls Try.prog 57 #[.slice a n c] w (SetPost l n w) := by
  have hmm := run_makeMap_n w n
  have hb0 : Below w.heap.size w (w.alloc (.map #[] 0)) := (Below.refl _ w).alloc (Nat.le_refl _) _
  have HO := Lib.hid (h.below hb0 hB)
  have HB0 := Lib.hid hb0
  have HS0 := Lib.hid (setIs_made w)
  have HF := Lib.hid hf
  have hs0 : w.heap.size + 1 ≤ (w.alloc (.map #[] 0)).heap.size := by show _ ≤ (w.heap.push _).size; simp
  clear h hb0 hf
  go_enter Try.func57, Try.ntmps57
  go_upto_region 2 with fail
  clear hmm
  generalize w.alloc (.map #[] 0) = w0 at HO HB0 HS0 hs0 ⊢
  go_wp2
  go_loopw [11] (fun i wr => ∃ k : Nat, k ≤ n ∧ i = .int .i64 (k : Int) ∧ Hid (SetIs wr w.heap.size k (setF l k)) ∧ Hid (Below w.heap.size w wr) ∧ w.heap.size + 1 ≤ wr.heap.size) (fun i _ => n - (intOf i).toNat)
  case atStart => exact ⟨0, by omega, rfl, HS0, HB0, hs0⟩
  case round =>
    obtain ⟨k, hk, rfl, HS, HB, hsr⟩ := hrel
    clear HS0
    by_cases hlt : k < n
    rotate_left
    · obtain rfl : k = n := by omega
      go_wp2
      go_ret
      exact ⟨w.heap.size, rfl, Nat.le_refl _, HS.out, HB.out⟩
    have HOr := Lib.hid (HO.out.kept fun j hj => ((HB.out.block j (by omega)).trans (HB0.out.block j (by omega)).symm))
    obtain ⟨b, off, rfl, hb, ho⟩ := HOr.out.2 k hlt
    have HOk : Hid (OpAt wr b (off + k * 8) (atOp l k)) := ho
    have HFk := Lib.hid (HF.out k hlt)
    have HSt : Hid (setF l (k + 1) = putF (setF l k) (atOp l k)) := rfl
    clear ho
    generalize atOp l k = x at HOk HFk HSt
    obtain ⟨d0, d1, d2, d3, d4, d5, d6, d7⟩ := HOk.out
    go_upto_region 5 with fail

    have hb2 : Below wr.heap.size wr (wr.alloc (.cells #[.int .i64 x.dev, .int .i64 x.seq, .int .i64 x.stamp, .int .i64 x.kind, .string x.item, .int .i64 x.qty, .int .i64 x.level, .int .i64 x.undos] 66)) := (Below.refl _ _).alloc (Nat.le_refl _) _
    have hx := boxAt (Below.refl _ (wr.alloc (.cells #[.int .i64 x.dev, .int .i64 x.seq, .int .i64 x.stamp, .int .i64 x.kind, .string x.item, .int .i64 x.qty, .int .i64 x.level, .int .i64 x.undos] 66)))
    have HS2 := Lib.hid (HS.out.below hb2)
    generalize wr.alloc (.cells #[.int .i64 x.dev, .int .i64 x.seq, .int .i64 x.stamp, .int .i64 x.kind, .string x.item, .int .i64 x.qty, .int .i64 x.level, .int .i64 x.undos] 66) = w2 at hb2 hx HS2 ⊢
    have hnb := hb2.size
    generalize hnbe : wr.heap.size = nb at hx hb2 hsr hnb ⊢
    have HB2 : Hid (Below w.heap.size w w2) := HB.out.trans ⟨hb2.os, hb2.tape, hb2.output, by omega, fun j hj => hb2.block j (by omega)⟩
    clear d0 d1 d2 d3 d4 d5 d6 d7 HOk HOr
    obtain ⟨e0, e1, e2, e3, e4, e5, e6, e7⟩ := op_cells hx
    have hS : w2.drew.cell? ⟨nb, 0, none⟩ = some (.int .i64 x.dev) ∧ w2.drew.cell? ⟨nb, 1, none⟩ = some (.int .i64 x.seq) ∧ w2.drew.cell? ⟨nb, 2, none⟩ = some (.int .i64 x.stamp) ∧ w2.drew.cell? ⟨nb, 3, none⟩ = some (.int .i64 x.kind) ∧ w2.drew.cell? ⟨nb, 4, none⟩ = some (.string x.item) ∧ w2.drew.cell? ⟨nb, 5, none⟩ = some (.int .i64 x.qty) ∧ w2.drew.cell? ⟨nb, 6, none⟩ = some (.int .i64 x.level) ∧ w2.drew.cell? ⟨nb, 7, none⟩ = some (.int .i64 x.undos) := ⟨e0, e1, e2, e3, e4, e5, e6, e7⟩
    have hnb2 : nb < w2.heap.size := (Array.getElem?_eq_some_iff.1 hx).1
    clear hx hb2 e0 e1 e2 e3 e4 e5 e6 e7
    go_wp2_with fail
    refine wp_region_held_drew (S := fun w' => w'.cell? ⟨nb, 0, none⟩ = some (.int .i64 x.dev) ∧ w'.cell? ⟨nb, 1, none⟩ = some (.int .i64 x.seq) ∧ w'.cell? ⟨nb, 2, none⟩ = some (.int .i64 x.stamp) ∧ w'.cell? ⟨nb, 3, none⟩ = some (.int .i64 x.kind) ∧ w'.cell? ⟨nb, 4, none⟩ = some (.string x.item) ∧ w'.cell? ⟨nb, 5, none⟩ = some (.int .i64 x.qty) ∧ w'.cell? ⟨nb, 6, none⟩ = some (.int .i64 x.level) ∧ w'.cell? ⟨nb, 7, none⟩ = some (.int .i64 x.undos)) (by kernel_rfl) hS (fun hHeld => ?_)
    refine wpAnyH_take (i := 0) (oi := { dst := some 15, op := Op.move (Operand.tmp 3), type := 63, pos := "l04_carts.go:28", after := #[], guard := none }) (v := ?_) rfl (by kernel_rfl) (by kernel_rfl) (by kernel_rfl) (fun _ _ _ h => h) (Or.inl ⟨by rfl, ?_⟩) (by assumption) ?_
    rotate_left
    · intro w hSw
      (try dsimp only at hSw)
      first | (go_simp; done) | (go_simp; with_reducible rfl)
    (try simp only [Act.put, List.setIfInBounds_toArray, List.set_cons_zero, List.set_cons_succ])
    refine wpAnyH_take (i := 1) (oi := { dst := some 16, op := Op.load 66 (Operand.tmp 5), type := 66, pos := "l04_carts.go:28", after := #[], guard := none }) (v := ?_) rfl (by kernel_rfl) (by kernel_rfl) (by kernel_rfl) (fun _ _ _ h => h) (Or.inl ⟨by rfl, ?_⟩) (by assumption) ?_
    rotate_left
    · intro w hSw
      (try dsimp only at hSw)
      first | (go_simp; done) | (go_simp; with_reducible rfl)
    (try simp only [Act.put, List.setIfInBounds_toArray, List.set_cons_zero, List.set_cons_succ])
    refine wpAnyH_take (i := 3) (oi := { dst := some 18, op := Op.load 66 (Operand.tmp 5), type := 66, pos := "l04_carts.go:28", after := #[], guard := none }) (v := ?_) rfl (by kernel_rfl) (by kernel_rfl) (by kernel_rfl) (fun _ _ _ h => h) (Or.inl ⟨by rfl, ?_⟩) (by assumption) ?_
    rotate_left
    · intro w hSw
      (try dsimp only at hSw)
      first | (go_simp; done) | (go_simp; with_reducible rfl)
    (try simp only [Act.put, List.setIfInBounds_toArray, List.set_cons_zero, List.set_cons_succ])
    refine wpAnyH_ready (rs := [2]) (by kernel_rfl) (by simp) ?_
    refine AllReadyH.cons (o := { dst := some 17, op := Op.call { callee := Callee.value (Operand.func 58), args := #[Operand.tmp 16], argTypes := #[66] }, type := 68, pos := "l04_carts.go:28", after := #[{ on := 1, ground := Ground.data }], guard := none }) rfl (fun K hK => ?_) AllReadyH.nil
    go_simp
    go_at_call 58
    refine (nameOf x w2.drew).mono ?_
    rintro e w3 ⟨rfl, hb3⟩
    have hS3 : w3.cell? ⟨nb, 0, none⟩ = some (.int .i64 x.dev) ∧ w3.cell? ⟨nb, 1, none⟩ = some (.int .i64 x.seq) ∧ w3.cell? ⟨nb, 2, none⟩ = some (.int .i64 x.stamp) ∧ w3.cell? ⟨nb, 3, none⟩ = some (.int .i64 x.kind) ∧ w3.cell? ⟨nb, 4, none⟩ = some (.string x.item) ∧ w3.cell? ⟨nb, 5, none⟩ = some (.int .i64 x.qty) ∧ w3.cell? ⟨nb, 6, none⟩ = some (.int .i64 x.level) ∧ w3.cell? ⟨nb, 7, none⟩ = some (.int .i64 x.undos) := ⟨(hb3.cell (block_lt_of_cell hS.1)).trans hS.1, (hb3.cell (block_lt_of_cell hS.2.1)).trans hS.2.1, (hb3.cell (block_lt_of_cell hS.2.2.1)).trans hS.2.2.1, (hb3.cell (block_lt_of_cell hS.2.2.2.1)).trans hS.2.2.2.1, (hb3.cell (block_lt_of_cell hS.2.2.2.2.1)).trans hS.2.2.2.2.1, (hb3.cell (block_lt_of_cell hS.2.2.2.2.2.1)).trans hS.2.2.2.2.2.1, (hb3.cell (block_lt_of_cell hS.2.2.2.2.2.2.1)).trans hS.2.2.2.2.2.2.1, (hb3.cell (block_lt_of_cell hS.2.2.2.2.2.2.2)).trans hS.2.2.2.2.2.2.2⟩
    refine hK.out _ _ hS3 (fun hHeld2 => ?_)
    clear hK K
    (try simp only [Act.put, List.setIfInBounds_toArray, List.set_cons_zero, List.set_cons_succ])
    have hbb : Below w2.heap.size w2 w3 := ⟨hb3.os, hb3.tape, hb3.output, hb3.size, hb3.block⟩
    have HS3 := Lib.hid (HS2.out.below hbb)
    obtain ⟨w4, hrun0, hset, hgr⟩ := HS3.out.put (by unfold maxLen; omega) x HFk.out
    have hrun : (Instr.mapUpdate 63 (.map (some w.heap.size)) (nameV x.dev x.seq) (.agg #[.int .i64 x.dev, .int .i64 x.seq, .int .i64 x.stamp, .int .i64 x.kind, .string x.item, .int .i64 x.qty, .int .i64 x.level, .int .i64 x.undos])).run Try.prog w3 = .ok () w4 := hrun0
    have hn3 : nb < w3.heap.size := Nat.lt_of_lt_of_le hnb2 hbb.size
    have hS4 : w4.cell? ⟨nb, 0, none⟩ = some (.int .i64 x.dev) ∧ w4.cell? ⟨nb, 1, none⟩ = some (.int .i64 x.seq) ∧ w4.cell? ⟨nb, 2, none⟩ = some (.int .i64 x.stamp) ∧ w4.cell? ⟨nb, 3, none⟩ = some (.int .i64 x.kind) ∧ w4.cell? ⟨nb, 4, none⟩ = some (.string x.item) ∧ w4.cell? ⟨nb, 5, none⟩ = some (.int .i64 x.qty) ∧ w4.cell? ⟨nb, 6, none⟩ = some (.int .i64 x.level) ∧ w4.cell? ⟨nb, 7, none⟩ = some (.int .i64 x.undos) := ⟨(cell_of_block (hgr.block nb hn3 (by simp; omega))).trans hS3.1, (cell_of_block (hgr.block nb hn3 (by simp; omega))).trans hS3.2.1, (cell_of_block (hgr.block nb hn3 (by simp; omega))).trans hS3.2.2.1, (cell_of_block (hgr.block nb hn3 (by simp; omega))).trans hS3.2.2.2.1, (cell_of_block (hgr.block nb hn3 (by simp; omega))).trans hS3.2.2.2.2.1, (cell_of_block (hgr.block nb hn3 (by simp; omega))).trans hS3.2.2.2.2.2.1, (cell_of_block (hgr.block nb hn3 (by simp; omega))).trans hS3.2.2.2.2.2.2.1, (cell_of_block (hgr.block nb hn3 (by simp; omega))).trans hS3.2.2.2.2.2.2.2⟩
    refine wpAnyH_ready (rs := [4]) (by kernel_rfl) (by simp) ?_
    refine AllReadyH.cons (o := { dst := none, op := Op.mapUpdate 63 (Operand.tmp 15) (Operand.tmp 17) (Operand.tmp 18), type := 0, pos := "l04_carts.go:28", after := #[{ on := 0, ground := Ground.data }, { on := 2, ground := Ground.data }, { on := 3, ground := Ground.data }, { on := 2, ground := Ground.chain }, { on := 0, ground := Ground.phase }, { on := 1, ground := Ground.phase }, { on := 2, ground := Ground.phase }, { on := 3, ground := Ground.phase }], guard := none }) rfl (fun K hK => ?_) AllReadyH.nil
    go_simp
    refine hK.out _ _ hS4 (fun hHeld3 => ?_)
    clear hK K
    (try simp only [Act.put, List.setIfInBounds_toArray, List.set_cons_zero, List.set_cons_succ])
    refine wpAnyH_done (by kernel_rfl) ?_ _
    have HB3 := Lib.hid (HB2.out.trans (hbb.mono HB2.out.size))
    have HB4 : Hid (Below w.heap.size w w4) := HB3.out.grown hgr HB3.out.size (fun j hj => by cases hj; exact Nat.le_refl _)
    have HSet := Lib.hid hset
    rw [← HSt.out] at HSet
    have hs4 : w.heap.size + 1 ≤ w4.heap.size := by have := hgr.size; have := hbb.size; omega
    clear hS hS3 hS4 hrun hrun0 hset hgr hb3 hbb hHeld hHeld2 hHeld3
    go_wp2
    go_roundw
    case rel => exact ⟨k + 1, by omega, by go_num, HSet, HB4, hs4⟩
    case measure => simp [intOf]; omega
end Go.Proofs.Ytjmilgijdfibbab
