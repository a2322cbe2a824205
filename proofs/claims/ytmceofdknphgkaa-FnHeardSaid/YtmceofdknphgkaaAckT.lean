/- The walks of laws.eqInt64SS, markInt64SS, heldInt64SS, and of szAcks, toAcks, eqAcks, markAcks, heldAcks; of spec.AcksOk. -/
import Derived.Test.YtmceofdknphgkaaAckS
namespace Go.Proofs.Ytmceofdknphgkaa
open Go.RowKit


theorem one_cell {w : World} {g : Nat} {v : Value} {T : TypeId} (h : w.heap[g]? = some (.cells #[v] T (0, 0))) : w.cell? ⟨g, 0, none⟩ = some v := (cell_of_row _ _ 0 _ _ _ h).trans (by simp)
theorem cell_set1 {w : World} {g : Nat} {u : Value} {T : TypeId} (v : Value) (h : w.heap[g]? = some (.cells #[u] T (0, 0))) : (w.setCell ⟨g, 0, none⟩ v).cell? ⟨g, 0, none⟩ = some v := by
  have := heap_setCell_same _ _ 0 _ _ v h
  exact one_cell (by simpa using this)
theorem box_new {w w1 : World} {o : Obj} (hb : Below (w.alloc o).heap.size (w.alloc o) w1) : w1.heap[w.heap.size]? = some o := (hb.block _ (by simp)).trans (heap_alloc_new _ _)
/-- What a call leaves that hands back a new table. -/
def FreshAcks (l : List (List Int)) (w : World) (e : Ending) (w' : World) : Prop :=
  ∃ g, e = .returned (.agg #[.slice (some ⟨g, 0, none⟩) l.length l.length]) ∧ (∃ f, RowsAt w' w.heap.size w'.heap.size g l.length f (rowOf l)) ∧ Below w.heap.size w w'

/-- How many numbers stand in the first k rows. -/
def vsum (V : Nat → List Int) : Nat → Nat
  | 0 => 0
  | k + 1 => vsum V k + (V k).length
theorem vsum_le (V : Nat → List Int) {i n : Nat} (h : i ≤ n) : vsum V i ≤ vsum V n := by
  induction n with
  | zero => obtain rfl : i = 0 := by omega
            exact Nat.le_refl _
  | succ n ih =>
    rcases Nat.lt_or_ge i (n + 1) with h1 | h1
    · have := ih (by omega)
      show _ ≤ vsum V n + _
      omega
    · obtain rfl : i = n + 1 := by omega
      exact Nat.le_refl _
theorem isum_v (l : List (List Int)) : ∀ k, vsum (rowOf l) k = isum l k
  | 0 => rfl
  | k + 1 => by show vsum (rowOf l) k + _ = isum l k + _; rw [isum_v l k]
/-- The rows when the first j are marked, from k on. -/
def markV (V : Nat → List Int) (k j : Nat) : Nat → List Int := fun i => if i < j then marks (k + vsum V i) (V i).length else V i
theorem markV_zero (V : Nat → List Int) (k : Nat) : markV V k 0 = V := by funext i; unfold markV; rw [if_neg (by omega)]
theorem markV_step (V : Nat → List Int) (k j : Nat) : (fun i => if i = j then marks (k + vsum V j) (V j).length else markV V k j i) = markV V k (j + 1) := by
  funext i
  unfold markV
  by_cases e : i = j
  · subst e; rw [if_pos rfl, if_pos (by omega)]
  · rw [if_neg e]
    by_cases h : i < j
    · rw [if_pos h, if_pos (by omega)]
    · rw [if_neg h, if_neg (by omega)]
theorem markV_at (V : Nat → List Int) (k j : Nat) : markV V k j j = V j := by unfold markV; rw [if_neg (by omega)]
theorem markV_in (V : Nat → List Int) {k n i : Nat} (h : i < n) : markV V k n i = marks (k + vsum V i) (V i).length := by unfold markV; rw [if_pos h]
theorem RowsAt.open {w : World} {lo hi g n : Nat} {f : Nat → Nat} {V : Nat → List Int} (h : RowsAt w lo hi g n f V) {i : Nat} (hi' : i < n) :
    ∃ ai ci, w.cell? ⟨g, i, none⟩ = some (.slice ai (V i).length ci) ∧ Own w (f i) (f i + 1) ai (V i).length (V i) ∧ lo ≤ f i ∧ f i < hi ∧
      ∀ (w' : World) (xs : List Int), xs.length = (V i).length → Outside (f i) (f i + 1) w w' → Own w' (f i) (f i + 1) ai (V i).length xs → RowsAt w' lo hi g n f (fun j => if j = i then xs else V j) := by
  obtain ⟨⟨h1, h2, cs, hg, hc⟩, hf, hd⟩ := h
  obtain ⟨ai, ci, e, ho⟩ := hc i hi'
  refine ⟨ai, ci, (cell_of_row _ _ _ _ _ _ hg).trans e, ho, (hf i hi').1, (hf i hi').2.1, fun w' xs hxl hO hx => ⟨⟨h1, h2, cs, (hO.block g (by have := (hf i hi').2.2; omega)).trans hg, fun j hj => ?_⟩, hf, hd⟩⟩
  by_cases q : j = i
  · subst q
    simp only [if_pos]
    exact ⟨ai, ci, by rw [hxl]; exact e, by rw [hxl]; exact hx⟩
  · simp only [if_neg q]
    obtain ⟨aj, cj, ej, hoj⟩ := hc j hj
    have hne : f j ≠ f i := by
      rcases Nat.lt_or_gt_of_ne q with r | r
      · exact hd j i r hi'
      · exact fun s => hd i j r hj s.symm
    exact ⟨aj, cj, ej, hoj.kept fun q h1 h2 => hO.block q (by omega)⟩
/-- What marking leaves. -/
def MarkRows (V : Nat → List Int) (k n lo hi g : Nat) (f : Nat → Nat) (w : World) (e : Ending) (w' : World) : Prop :=
  e = .returned (.int .i64 ((k + vsum V n : Nat) : Int)) ∧ RowsAt w' lo hi g n f (markV V k n) ∧ Outside lo hi w w'
/-- Of the blocks that were there none has turned but those from lo up to hi. -/
structure BesideA (lo hi : Nat) (w w' : World) : Prop where
  os : w'.os = w.os
  tape : w'.tape = w.tape
  output : w'.output = w.output
  size : w.heap.size ≤ w'.heap.size
  block : ∀ j, j < w.heap.size → j < lo ∨ hi ≤ j → w'.heap[j]? = w.heap[j]?
theorem BesideA.below {lo hi B : Nat} {w w' : World} (h : BesideA lo hi w w') (hB : B ≤ lo) (hw : B ≤ w.heap.size) : Below B w w' := ⟨h.os, h.tape, h.output, h.size, fun k hk => h.block k (by omega) (.inl (by omega))⟩
set_option maxRecDepth 100000 in
set_option maxHeartbeats 1000000 in
theorem specAcksOk (w : World) (B : Nat) (a : Option Addr) (n cap : Nat) (l : List (List Int)) (h : IRows w B a n l) (hB : B ≤ w.heap.size) (hn : n ≤ 1048576) (hr : ∀ i, i < n → (rowOf l i).length ≤ 1048576) :
    Calls Try.prog 61 #[.agg #[.slice a n cap]] w fun e w' => e = .returned (.bool (ackOk l)) ∧ Below w.heap.size w w' := by
  have hb0 : Below w.heap.size w (w.alloc (.cells #[.slice a n cap] 66)) := (Below.refl _ w).alloc (Nat.le_refl _) _
  have H := Lib.hid (h.below hb0 hB)
  have HB := Lib.hid hb0
  have HR := Lib.hid hr
  have HL := Lib.hid h.1
  have cb := one_cell (heap_alloc_new w (.cells #[.slice a n cap] 66))
  clear h hb0 hr
  go_enter Try.func61, Try.ntmps61
  go_wp2
  generalize w.alloc (.cells #[.slice a n cap] 66) = w0 at H HB cb ⊢
  go_loop [3] (fun i => ∃ k : Nat, k ≤ n ∧ i = .int .i64 (k : Int) ∧ Hid ((l.take k).all vecOk = true)) (fun i => n - (intOf i).toNat)
  case atStart => exact ⟨0, Nat.zero_le _, rfl, rfl⟩
  case round =>
    obtain ⟨k, hk, rfl, HA⟩ := hrel
    by_cases hlt : k < n
    · obtain ⟨b, off, ai, ci, rfl, hb, hc, hx⟩ := H.out.2 k hlt
      have hro := HR.out k hlt
      have hkl : k < l.length := by rw [HL.out]; exact hlt
      have HS := Lib.hid (fun h => ack_step hkl HA.out h)
      have HT := Lib.hid (fun h => ack_stop (l := l) hkl h)
      clear hkl
      generalize rowOf l k = xs at hc hx hro HS HT
      go_wp2_with fail
      refine (specVecOk w0 B ai _ ci xs hx hro).mono ?_
      rintro e w1 ⟨rfl, rfl⟩
      rcases hv : vecOk xs with _ | _
      · have HF := Lib.hid (HT.out hv)
        clear hv
        go_wp2
        go_ret
        exact ⟨ret_bool HF.out.symm, HB.out⟩
      · have HF := Lib.hid (HS.out hv)
        clear hv
        go_wp2
        go_round
        case rel => exact ⟨k + 1, by omega, by go_num, HF⟩
        case measure => simp [intOf]; omega
    · have HV : Hid (ackOk l = decide (l.length = 4)) := ack_end (by rw [HL.out]; exact hlt) HA.out
      go_wp2
      go_ret
      refine ⟨ret_bool ?_, HB.out⟩
      rw [HV.out, HL.out, Bool.eq_iff_iff]
      simp
      omega
end Go.Proofs.Ytmceofdknphgkaa
