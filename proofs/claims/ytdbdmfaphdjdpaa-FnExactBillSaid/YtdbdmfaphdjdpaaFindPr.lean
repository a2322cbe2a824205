/- Prices found by item: the walks of slices.BinarySearchFunc, sortedList.counterpart, impl.PriceOf and spec.PriceOf. -/
import Derived.Test.YtdbdmfaphdjdpaaSortSpW
import Derived.Deep.Cut
namespace Go.Proofs.Ytdbdmfaphdjdpaa
open Go.RowKit
set_option linter.unusedVariables false
set_option linter.unusedSimpArgs false

theorem bl_irr : ∀ x : List UInt8, Op.bytesLess x x = false
  | [] => rfl
  | a :: x => by
    have h : ¬ a < a := by rw [UInt8.lt_iff_toNat_lt]; omega
    simp [Op.bytesLess, bl_irr x, h]
theorem bl_trans : ∀ {x y z : List UInt8}, Op.bytesLess x y = true → Op.bytesLess y z = true → Op.bytesLess x z = true
  | [], [], z, h, _ => by cases h
  | _ :: _, [], z, h, _ => by cases h
  | _, _ :: _, [], _, h => by cases h
  | [], _ :: _, _ :: _, _, _ => rfl
  | a :: x, b :: y, c :: z, h1, h2 => by
    simp only [Op.bytesLess, Bool.or_eq_true, decide_eq_true_eq, Bool.and_eq_true, beq_iff_eq] at h1 h2 ⊢
    rcases h1 with h1 | ⟨rfl, h1⟩
    · rcases h2 with h2 | ⟨rfl, _⟩
      · left; rw [UInt8.lt_iff_toNat_lt] at *; omega
      · exact .inl h1
    · rcases h2 with h2 | ⟨rfl, h2⟩
      · exact .inl h2
      · exact .inr ⟨rfl, bl_trans h1 h2⟩
theorem ltS_trans {s t u : ByteArray} (h : ltS s t = true) (h2 : ltS t u = true) : ltS s u = true := bl_trans h h2
theorem ltS_irr (s : ByteArray) : ltS s s = false := bl_irr _
theorem text_eqP {x y : ByteArray} (h : x.toList = y.toList) : x = y := by
  rw [Lib.toList_data, Lib.toList_data] at h
  cases x; cases y
  simpa using h
theorem cmp_zero {s t : ByteArray} : cmpS s t = 0 ↔ s = t := by
  constructor
  · intro h
    unfold cmpS at h
    by_cases h1 : ltS s t = true
    · rw [if_pos h1] at h; omega
    · rw [if_neg h1] at h
      by_cases h2 : (s.toList == t.toList) = true
      · exact text_eqP (by simpa using h2)
      · rw [if_neg h2] at h; omega
  · rintro rfl
    unfold cmpS
    rw [if_neg (by rw [ltS_irr]; simp), if_pos (by simp)]
theorem cmp_neg {s t : ByteArray} : cmpS s t < 0 ↔ ltS s t = true := by
  constructor
  · exact cmp_yes
  · intro h
    unfold cmpS
    rw [if_pos h]
    omega
def IncP (l : List PrV) : Prop := ∀ i, i < l.length → Princ l i = true
theorem incP_of {l : List PrV} (h : PrsB l = true) : IncP l := fun i hi => by
  unfold PrsB sortB at h
  simp only [Bool.and_eq_true, List.all_eq_true, List.mem_range] at h
  exact h.2.1 i hi
theorem incP_lt {l : List PrV} (h : IncP l) : ∀ j i, i < j → j < l.length → ltS (atPr l i).item (atPr l j).item = true
  | 0, _, h1, _ => absurd h1 (by omega)
  | j + 1, i, h1, h2 => by
    have hs : ltS (atPr l j).item (atPr l (j + 1)).item = true := by
      have := h (j + 1) h2
      unfold Princ at this
      simpa using this
    rcases Nat.lt_or_ge i j with g | g
    · exact ltS_trans (incP_lt h j i g (by omega)) hs
    · obtain rfl : i = j := by omega
      exact hs
def cmpP (l : List PrV) (s : ByteArray) (j : Nat) : Int := cmpS (atPr l j).item s
theorem cmpP_down {l : List PrV} {s : ByteArray} (h : IncP l) {m : Nat} (hm : m < l.length) (hc : cmpP l s m < 0) : ∀ j, j < m + 1 → cmpP l s j < 0 := fun j hj => by
  rcases Nat.lt_or_ge j m with h1 | h1
  · exact cmp_neg.2 (ltS_trans (incP_lt h m j h1 hm) (cmp_neg.1 hc))
  · obtain rfl : j = m := by omega
    exact hc
theorem cmpP_up {l : List PrV} {s : ByteArray} (h : IncP l) {m : Nat} (hc : 0 ≤ cmpP l s m) : ∀ j, m ≤ j → j < l.length → 0 ≤ cmpP l s j := fun j hj hl => by
  rcases Nat.lt_or_ge m j with h1 | h1
  · refine Int.not_lt.1 fun hn => ?_
    have : cmpP l s m < 0 := cmp_neg.2 (ltS_trans (incP_lt h j m h1 hl) (cmp_neg.1 hn))
    omega
  · obtain rfl : j = m := by omega
    exact hc
theorem noneP_of {l : List PrV} {s : ByteArray} (h : IncP l) {k : Nat} (h1 : ∀ j, j < k → cmpP l s j < 0) (h2 : k < l.length → 0 ≤ cmpP l s k ∧ cmpP l s k ≠ 0) : ∀ j, j < l.length → (atPr l j).item ≠ s := fun j hj e => by
  have ez : cmpP l s j = 0 := cmp_zero.2 e
  rcases Nat.lt_trichotomy j k with g | g | g
  · have := h1 j g; omega
  · subst g
    exact (h2 hj).2 ez
  · have hlt := incP_lt h j k g hj
    rw [e] at hlt
    have a1 := (h2 (by omega)).1
    have a2 : cmpP l s k < 0 := cmp_neg.2 hlt
    omega
def FoundP (l : List PrV) (s : ByteArray) (i : Nat) (b : Bool) : Prop := i ≤ l.length ∧ (b = true → i < l.length ∧ (atPr l i).item = s) ∧ (b = false → ∀ j, j < l.length → (atPr l j).item ≠ s)
theorem foundP_end {l : List PrV} {s : ByteArray} (h : IncP l) (h1 : ∀ j, j < l.length → cmpP l s j < 0) : FoundP l s l.length false :=
  ⟨Nat.le_refl _, fun h => (by cases h), fun _ => noneP_of h h1 (fun h => absurd h (by omega))⟩
theorem foundP_mid {l : List PrV} {s : ByteArray} (h : IncP l) {k : Nat} (hk : k < l.length) (h1 : ∀ j, j < k → cmpP l s j < 0) (h2 : 0 ≤ cmpP l s k) : FoundP l s k (decide (cmpP l s k = 0)) :=
  ⟨by omega, fun e => ⟨hk, cmp_zero.1 (of_decide_eq_true e)⟩, fun e => noneP_of h h1 fun _ => ⟨h2, of_decide_eq_false e⟩⟩
theorem boxP {w w1 : World} {cs : Array Value} {T : TypeId} (hb : Below (w.alloc (.cells cs T)).heap.size (w.alloc (.cells cs T)) w1) : w1.heap[w.heap.size]? = some (.cells cs T (0, 0)) := (hb.block _ (by show _ < (w.heap.push _).size; simp)).trans (by show (w.heap.push _)[_]? = _; simp)
theorem two {w : World} {g : Nat} {T : TypeId} {a b : Value} (h : w.heap[g]? = some (.cells #[a, b] T (0, 0))) : w.cell? ⟨g, 0, none⟩ = some a ∧ w.cell? ⟨g, 1, none⟩ = some b := ⟨(cell_of_row _ _ _ _ _ _ h).trans rfl, (cell_of_row _ _ _ _ _ _ h).trans rfl⟩

set_option maxRecDepth 100000 in
set_option maxHeartbeats 4000000 in
theorem binPr (w : World) (B : Nat) (a : Option Addr) (n c g : Nat) (l : List PrV) (x : PrV) (h : Prs w B a n l) (hB : B ≤ w.heap.size) (hn : n ≤ 1048576) (hinc : IncP l) (hg : w.cell? ⟨g, 0, none⟩ = some (.func (.func 161) #[] #[])) :
    Calls Try.prog 184 #[.slice a n c, .agg #[.string x.item, .int .i64 x.cents], .func (.func 181) #[] #[.pointer (some ⟨g, 0, none⟩)]] w fun e w' => (∃ (i : Nat) (b : Bool), e = .returned (.tuple #[.int .i64 (i : Int), .bool b]) ∧ FoundP l x.item i b) ∧ Below w.heap.size w w' := by
  have hb0 : Below w.heap.size w (w.alloc (.cells #[.string x.item, .int .i64 x.cents] 125)) := (Below.refl _ w).alloc (Nat.le_refl _) _
  have HO := Lib.hid (h.below hb0 hB)
  have HB := Lib.hid hb0
  have HX := Lib.hid (heap_alloc_new w (.cells #[.string x.item, .int .i64 x.cents] 125))
  have HL := Lib.hid h.1
  have HInc := Lib.hid hinc
  have hglt := block_lt_of_cell hg
  have HG := Lib.hid ((hb0.cell (p := ⟨g, 0, none⟩) hglt).trans hg)
  have hsz : w.heap.size < (w.alloc (.cells #[.string x.item, .int .i64 x.cents] 125)).heap.size := by show _ < (w.heap.push _).size; simp
  clear h hb0 hinc hg
  go_enter Try.func184, Try.ntmps184
  go_upto_region 1 with fail
  generalize w.alloc (.cells #[.string x.item, .int .i64 x.cents] 125) = w0 at HO HB HX HG hsz ⊢
  go_wp2
  go_loopw [9, 10] (fun s t wr => ∃ lo hi : Nat, lo ≤ hi ∧ hi ≤ n ∧ s = .int .i64 (lo : Int) ∧ t = .int .i64 (hi : Int) ∧ Hid ((∀ j, j < lo → cmpP l x.item j < 0) ∧ ∀ j, hi ≤ j → j < n → 0 ≤ cmpP l x.item j) ∧ Hid (Below w0.heap.size w0 wr)) (fun s t _ => (intOf t - intOf s).toNat)
  case atStart => exact ⟨0, n, by omega, by omega, rfl, rfl, ⟨fun j hj => absurd hj (by omega), fun j h1 h2 => absurd h1 (by omega)⟩, Below.refl _ _⟩
  case round =>
    obtain ⟨lo, hi, hlh, hhn, rfl, rfl, HR, HBr⟩ := hrel
    obtain ⟨e0, e1⟩ := two ((HBr.out.block _ (by omega)).trans HX.out)
    have hgr := (HBr.out.cell (p := ⟨g, 0, none⟩) (by show g < w0.heap.size; omega)).trans HG.out
    by_cases hlt : lo < hi
    · have hli : (lo : Int) < (hi : Int) := by omega
      obtain ⟨m, hm⟩ : ∃ m, m = (lo + hi) / 2 := ⟨_, rfl⟩
      have hmi : ((lo : Int) + (hi : Int)) / 2 = (m : Int) := by omega
      have hmn : m < n := by omega
      have hml : lo ≤ m ∧ m < hi := by omega
      obtain ⟨hml1, hml2⟩ := hml
      clear hm
      go_upto_region 5 with fail
      have hmn' : (m : Int) < (n : Int) := by omega
      obtain ⟨b, off, rfl, hb, ho⟩ := HO.out.2 m hmn
      have HOk : Hid (PrAt w0 b (off + m * 2) (atPr l m)) := ho
      clear ho
      have HC : Hid (cmpP l x.item m = cmpS (atPr l m).item x.item) := rfl
      generalize atPr l m = y at HOk HC
      obtain ⟨d0, d1⟩ := HOk.out.kept (HBr.out.block b (by omega))
      have hS : wr.drew.cell? ⟨b, off + m * 2, none⟩ = some (.string y.item) ∧ wr.drew.cell? ⟨b, off + m * 2 + 1, none⟩ = some (.int .i64 y.cents) ∧ wr.drew.cell? ⟨w.heap.size, 0, none⟩ = some (.string x.item) ∧ wr.drew.cell? ⟨w.heap.size, 1, none⟩ = some (.int .i64 x.cents) ∧ wr.drew.cell? ⟨g, 0, none⟩ = some (.func (.func 161) #[] #[]) := ⟨d0, d1, e0, e1, hgr⟩
      go_wp2_with fail
      go_region_held3 (fun w' => w'.cell? ⟨b, off + m * 2, none⟩ = some (.string y.item) ∧ w'.cell? ⟨b, off + m * 2 + 1, none⟩ = some (.int .i64 y.cents) ∧ w'.cell? ⟨w.heap.size, 0, none⟩ = some (.string x.item) ∧ w'.cell? ⟨w.heap.size, 1, none⟩ = some (.int .i64 x.cents) ∧ w'.cell? ⟨g, 0, none⟩ = some (.func (.func 161) #[] #[])) (first | with_reducible exact hS | with_reducible exact hS2)
        (first | (go_at_call 181; refine (Prord y x g _ hS.2.2.2.2).mono ?_; rintro e w2 ⟨rfl, hb2⟩; have ⟨q0, q1, q2, q3, q4⟩ := hS; have hS2 : w2.cell? ⟨b, off + m * 2, none⟩ = some (.string y.item) ∧ w2.cell? ⟨b, off + m * 2 + 1, none⟩ = some (.int .i64 y.cents) ∧ w2.cell? ⟨w.heap.size, 0, none⟩ = some (.string x.item) ∧ w2.cell? ⟨w.heap.size, 1, none⟩ = some (.int .i64 x.cents) ∧ w2.cell? ⟨g, 0, none⟩ = some (.func (.func 161) #[] #[]) := ⟨(hb2.cell (block_lt_of_cell q0)).trans q0, (hb2.cell (block_lt_of_cell q1)).trans q1, (hb2.cell (block_lt_of_cell q2)).trans q2, (hb2.cell (block_lt_of_cell q3)).trans q3, (hb2.cell (block_lt_of_cell q4)).trans q4⟩; clear q0 q1 q2 q3 q4))
      have HB2 := Lib.hid (HBr.out.trans ((Below.mk hb2.os hb2.tape hb2.output hb2.size hb2.block : Below wr.heap.size wr w2).mono HBr.out.size))
      clear hS hS2 hb2 d0 d1 e0 e1 hgr
      have HDn := Lib.hid (fun hc => cmpP_down (s := x.item) HInc.out (m := m) (by rw [HL.out]; exact hmn) hc)
      have HUp := Lib.hid (fun hc => cmpP_up (s := x.item) HInc.out (m := m) hc)
      rw [← HC.out]
      generalize cmpP l x.item m = cm at HDn HUp ⊢
      by_cases hc : cm < 0
      · have HRn : Hid ((∀ j, j < m + 1 → cmpP l x.item j < 0) ∧ ∀ j, hi ≤ j → j < n → 0 ≤ cmpP l x.item j) := ⟨HDn.out hc, HR.out.2⟩
        go_wp2
        go_roundw
        case rel => exact ⟨m + 1, hi, by omega, by omega, by go_num, rfl, HRn, HB2⟩
        case measure => simp [intOf]; omega
      · have HRn : Hid ((∀ j, j < lo → cmpP l x.item j < 0) ∧ ∀ j, m ≤ j → j < n → 0 ≤ cmpP l x.item j) := ⟨HR.out.1, fun j h1 h2 => HUp.out (by omega) j h1 (by rw [HL.out]; exact h2)⟩
        go_wp2
        go_roundw
        case rel => exact ⟨lo, m, by omega, by omega, rfl, by go_num, HRn, HB2⟩
        case measure => simp [intOf]; omega
    obtain rfl : lo = hi := by omega
    have hll : ¬ (lo : Int) < (lo : Int) := by omega
    clear hlt
    by_cases hend : lo < n
    · have hei : (lo : Int) < (n : Int) := by omega
      have HFo := Lib.hid (foundP_mid (s := x.item) HInc.out (k := lo) (by rw [HL.out]; exact hend) HR.out.1 (HR.out.2 lo (Nat.le_refl _) hend))
      obtain ⟨b, off, rfl, hb, ho⟩ := HO.out.2 lo hend
      have HOk : Hid (PrAt w0 b (off + lo * 2) (atPr l lo)) := ho
      clear ho
      have HC : Hid (cmpP l x.item lo = cmpS (atPr l lo).item x.item) := rfl
      generalize atPr l lo = y at HOk HC
      obtain ⟨d0, d1⟩ := HOk.out.kept (HBr.out.block b (by omega))
      have hS : wr.drew.cell? ⟨b, off + lo * 2, none⟩ = some (.string y.item) ∧ wr.drew.cell? ⟨b, off + lo * 2 + 1, none⟩ = some (.int .i64 y.cents) ∧ wr.drew.cell? ⟨w.heap.size, 0, none⟩ = some (.string x.item) ∧ wr.drew.cell? ⟨w.heap.size, 1, none⟩ = some (.int .i64 x.cents) ∧ wr.drew.cell? ⟨g, 0, none⟩ = some (.func (.func 161) #[] #[]) := ⟨d0, d1, e0, e1, hgr⟩
      go_wp2_with fail
      refine wp_region_held_drew (S := fun w' => w'.cell? ⟨b, off + lo * 2, none⟩ = some (.string y.item) ∧ w'.cell? ⟨b, off + lo * 2 + 1, none⟩ = some (.int .i64 y.cents) ∧ w'.cell? ⟨w.heap.size, 0, none⟩ = some (.string x.item) ∧ w'.cell? ⟨w.heap.size, 1, none⟩ = some (.int .i64 x.cents) ∧ w'.cell? ⟨g, 0, none⟩ = some (.func (.func 161) #[] #[])) (by kernel_rfl) hS (fun hHeld => ?_)
      clear hHeld
      refine wpAnyH_take (i := 0) (oi := { dst := some 35, op := Op.move (Operand.tmp 9), type := 3, pos := "sort.go:167", after := #[], guard := none }) (v := ?_) rfl (by kernel_rfl) (by kernel_rfl) (by kernel_rfl) (fun _ _ _ h => h) (Or.inl ⟨by rfl, ?_⟩) (by assumption) ?_
      rotate_left
      · intro w hSw
        (try dsimp only at hSw)
        first | (go_simp; done) | (go_simp; with_reducible rfl)
      (try simp only [Act.put, List.setIfInBounds_toArray, List.set_cons_zero, List.set_cons_succ])
      refine wpAnyH_take (i := 1) (oi := { dst := some 36, op := Op.move (Operand.tmp 9), type := 3, pos := "sort.go:167", after := #[], guard := none }) (v := ?_) rfl (by kernel_rfl) (by kernel_rfl) (by kernel_rfl) (fun _ _ _ h => h) (Or.inl ⟨by rfl, ?_⟩) (by assumption) ?_
      rotate_left
      · intro w hSw
        (try dsimp only at hSw)
        first | (go_simp; done) | (go_simp; with_reducible rfl)
      (try simp only [Act.put, List.setIfInBounds_toArray, List.set_cons_zero, List.set_cons_succ])
      refine wpAnyH_take (i := 2) (oi := { dst := some 37, op := Op.move (Operand.tmp 8), type := 3, pos := "sort.go:167", after := #[], guard := none }) (v := ?_) rfl (by kernel_rfl) (by kernel_rfl) (by kernel_rfl) (fun _ _ _ h => h) (Or.inl ⟨by rfl, ?_⟩) (by assumption) ?_
      rotate_left
      · intro w hSw
        (try dsimp only at hSw)
        first | (go_simp; done) | (go_simp; with_reducible rfl)
      (try simp only [Act.put, List.setIfInBounds_toArray, List.set_cons_zero, List.set_cons_succ])
      refine wpAnyH_take (i := 3) (oi := { dst := some 38, op := Op.binOp BinOp.lss 3 (Operand.tmp 36) (Operand.tmp 37) 3, type := 4, pos := "sort.go:167", after := #[{ on := 1, ground := Ground.data }, { on := 2, ground := Ground.data }], guard := none }) (v := ?_) rfl (by kernel_rfl) (by kernel_rfl) (by kernel_rfl) (fun _ _ _ h => h) (Or.inl ⟨by rfl, ?_⟩) (by assumption) ?_
      rotate_left
      · intro w hSw
        (try dsimp only at hSw)
        first | (go_simp; done) | (go_simp; with_reducible rfl)
      (try simp only [Act.put, List.setIfInBounds_toArray, List.set_cons_zero, List.set_cons_succ])
      refine wpAnyH_take (i := 4) (oi := { dst := some 39, op := Op.move (Operand.tmp 38), type := 4, pos := "sort.go:167", after := #[{ on := 3, ground := Ground.data }], guard := none }) (v := ?_) rfl (by kernel_rfl) (by kernel_rfl) (by kernel_rfl) (fun _ _ _ h => h) (Or.inl ⟨by rfl, ?_⟩) (by assumption) ?_
      rotate_left
      · intro w hSw
        (try dsimp only at hSw)
        first | (go_simp; done) | (go_simp; with_reducible rfl)
      (try simp only [Act.put, List.setIfInBounds_toArray, List.set_cons_zero, List.set_cons_succ])
      refine wpAnyH_take (i := 5) (oi := { dst := some 40, op := Op.move (Operand.tmp 2), type := 177, pos := "sort.go:167", after := #[{ on := 4, ground := Ground.guard }], guard := some (4, true) }) (v := ?_) rfl (by kernel_rfl) (by kernel_rfl) (by kernel_rfl) (fun _ _ _ h => h) (Or.inl ⟨by rfl, ?_⟩) (by assumption) ?_
      rotate_left
      · intro w hSw
        (try dsimp only at hSw)
        first | (go_simp; done) | (go_simp; with_reducible rfl)
      (try simp only [Act.put, List.setIfInBounds_toArray, List.set_cons_zero, List.set_cons_succ])
      refine wpAnyH_take (i := 6) (oi := { dst := some 41, op := Op.move (Operand.tmp 0), type := 53, pos := "sort.go:167", after := #[{ on := 4, ground := Ground.guard }], guard := some (4, true) }) (v := ?_) rfl (by kernel_rfl) (by kernel_rfl) (by kernel_rfl) (fun _ _ _ h => h) (Or.inl ⟨by rfl, ?_⟩) (by assumption) ?_
      rotate_left
      · intro w hSw
        (try dsimp only at hSw)
        first | (go_simp; done) | (go_simp; with_reducible rfl)
      (try simp only [Act.put, List.setIfInBounds_toArray, List.set_cons_zero, List.set_cons_succ])
      refine wpAnyH_take (i := 7) (oi := { dst := some 42, op := Op.move (Operand.tmp 9), type := 3, pos := "sort.go:167", after := #[{ on := 4, ground := Ground.guard }], guard := some (4, true) }) (v := ?_) rfl (by kernel_rfl) (by kernel_rfl) (by kernel_rfl) (fun _ _ _ h => h) (Or.inl ⟨by rfl, ?_⟩) (by assumption) ?_
      rotate_left
      · intro w hSw
        (try dsimp only at hSw)
        first | (go_simp; done) | (go_simp; with_reducible rfl)
      (try simp only [Act.put, List.setIfInBounds_toArray, List.set_cons_zero, List.set_cons_succ])
      refine wpAnyH_take (i := 8) (oi := { dst := some 43, op := Op.indexAddr 53 (Operand.tmp 41) (Operand.tmp 42), type := 0, pos := "sort.go:167", after := #[{ on := 6, ground := Ground.data }, { on := 7, ground := Ground.data }, { on := 4, ground := Ground.guard }], guard := some (4, true) }) (v := ?_) rfl (by kernel_rfl) (by kernel_rfl) (by kernel_rfl) (fun _ _ _ h => h) (Or.inl ⟨by rfl, ?_⟩) (by assumption) ?_
      rotate_left
      · intro w hSw
        (try dsimp only at hSw)
        first | (go_simp; done) | (go_simp; with_reducible rfl)
      (try simp only [Act.put, List.setIfInBounds_toArray, List.set_cons_zero, List.set_cons_succ])
      refine wpAnyH_take (i := 9) (oi := { dst := some 44, op := Op.load 125 (Operand.tmp 43), type := 125, pos := "sort.go:167", after := #[{ on := 8, ground := Ground.data }, { on := 4, ground := Ground.guard }], guard := some (4, true) }) (v := ?_) rfl (by kernel_rfl) (by kernel_rfl) (by kernel_rfl) (fun _ _ _ h => h) (Or.inl ⟨by rfl, ?_⟩) (by assumption) ?_
      rotate_left
      · intro w hSw
        (try dsimp only at hSw)
        first | (go_simp; done) | (go_simp; with_reducible rfl)
      (try simp only [Act.put, List.setIfInBounds_toArray, List.set_cons_zero, List.set_cons_succ])
      refine wpAnyH_take (i := 10) (oi := { dst := some 45, op := Op.load 125 (Operand.tmp 4), type := 125, pos := "sort.go:167", after := #[{ on := 4, ground := Ground.guard }], guard := some (4, true) }) (v := ?_) rfl (by kernel_rfl) (by kernel_rfl) (by kernel_rfl) (fun _ _ _ h => h) (Or.inl ⟨by rfl, ?_⟩) (by assumption) ?_
      rotate_left
      · intro w hSw
        (try dsimp only at hSw)
        first | (go_simp; done) | (go_simp; with_reducible rfl)
      (try simp only [Act.put, List.setIfInBounds_toArray, List.set_cons_zero, List.set_cons_succ])
      refine wpAnyH_ready (rs := [11]) (by kernel_rfl) (by simp) ?_
      refine AllReadyH.cons (o := { dst := some 46, op := Op.call { callee := Callee.value (Operand.tmp 40), args := #[Operand.tmp 44, Operand.tmp 45], argTypes := #[125, 125] }, type := 3, pos := "sort.go:167", after := #[{ on := 5, ground := Ground.data }, { on := 9, ground := Ground.data }, { on := 10, ground := Ground.data }, { on := 4, ground := Ground.chain }, { on := 4, ground := Ground.guard }], guard := some (4, true) }) rfl (fun K hK => ?_) AllReadyH.nil
      go_simp
      go_at_call 181
      refine (Prord y x g _ hS.2.2.2.2).mono ?_
      rintro e w2 ⟨rfl, hb2⟩
      rw [← HC.out]
      have ⟨q0, q1, q2, q3, q4⟩ := hS
      have hS2 : w2.cell? ⟨b, off + lo * 2, none⟩ = some (.string y.item) ∧ w2.cell? ⟨b, off + lo * 2 + 1, none⟩ = some (.int .i64 y.cents) ∧ w2.cell? ⟨w.heap.size, 0, none⟩ = some (.string x.item) ∧ w2.cell? ⟨w.heap.size, 1, none⟩ = some (.int .i64 x.cents) ∧ w2.cell? ⟨g, 0, none⟩ = some (.func (.func 161) #[] #[]) := ⟨(hb2.cell (block_lt_of_cell q0)).trans q0, (hb2.cell (block_lt_of_cell q1)).trans q1, (hb2.cell (block_lt_of_cell q2)).trans q2, (hb2.cell (block_lt_of_cell q3)).trans q3, (hb2.cell (block_lt_of_cell q4)).trans q4⟩
      clear q0 q1 q2 q3 q4
      refine hK.out _ _ hS2 (fun hHeld2 => ?_)
      clear hK K
      (try simp only [Act.put, List.setIfInBounds_toArray, List.set_cons_zero, List.set_cons_succ])
      refine wpAnyH_take (i := 12) (oi := { dst := some 47, op := Op.binOp BinOp.eql 3 (Operand.tmp 46) (Operand.const (Value.int IntKind.i64 0)) 3, type := 4, pos := "sort.go:167", after := #[{ on := 11, ground := Ground.data }, { on := 4, ground := Ground.guard }, { on := 14, ground := Ground.gcOnly Departure.lateStores }], guard := some (4, true) }) (v := ?_) rfl (by kernel_rfl) (by kernel_rfl) (by kernel_rfl) (fun _ _ _ h => h) (Or.inl ⟨by rfl, ?_⟩) (by assumption) ?_
      rotate_left
      · intro w hSw
        (try dsimp only at hSw)
        first | (go_simp; done) | (go_simp; with_reducible rfl)
      (try simp only [Act.put, List.setIfInBounds_toArray, List.set_cons_zero, List.set_cons_succ])
      refine wpAnyH_take (i := 13) (oi := { dst := some 48, op := Op.pick (Operand.tmp 39) (Operand.tmp 47) (Operand.const (Value.bool false)), type := 4, pos := "sort.go:167", after := #[{ on := 4, ground := Ground.data }, { on := 12, ground := Ground.data }, { on := 14, ground := Ground.gcOnly Departure.lateStores }], guard := none }) (v := ?_) rfl (by kernel_rfl) (by kernel_rfl) (by kernel_rfl) (fun _ _ _ h => h) (Or.inl ⟨by rfl, ?_⟩) (by assumption) ?_
      rotate_left
      · intro w hSw
        (try dsimp only at hSw)
        first | (go_simp; done) | (go_simp; with_reducible rfl)
      (try simp only [Act.put, List.setIfInBounds_toArray, List.set_cons_zero, List.set_cons_succ])
      refine wpAnyH_take (i := 14) (oi := { dst := some 6, op := Op.assign (Operand.tmp 35), type := 3, pos := "sort.go:167", after := #[{ on := 0, ground := Ground.data }, { on := 11, ground := Ground.chain }, { on := 0, ground := Ground.phase }, { on := 1, ground := Ground.textOnly Departure.lateStores }, { on := 2, ground := Ground.textOnly Departure.lateStores }, { on := 3, ground := Ground.textOnly Departure.lateStores }, { on := 4, ground := Ground.textOnly Departure.lateStores }, { on := 5, ground := Ground.textOnly Departure.lateStores }, { on := 6, ground := Ground.textOnly Departure.lateStores }, { on := 7, ground := Ground.textOnly Departure.lateStores }, { on := 8, ground := Ground.textOnly Departure.lateStores }, { on := 9, ground := Ground.textOnly Departure.lateStores }, { on := 10, ground := Ground.textOnly Departure.lateStores }, { on := 11, ground := Ground.textOnly Departure.lateStoresUnsure }, { on := 12, ground := Ground.textOnly Departure.lateStores }, { on := 13, ground := Ground.textOnly Departure.lateStores }], guard := none }) (v := ?_) rfl (by kernel_rfl) (by kernel_rfl) (by kernel_rfl) (fun _ _ _ h => h) (Or.inl ⟨by rfl, ?_⟩) (by assumption) ?_
      rotate_left
      · intro w hSw
        (try dsimp only at hSw)
        first | (go_simp; done) | (go_simp; with_reducible rfl)
      (try simp only [Act.put, List.setIfInBounds_toArray, List.set_cons_zero, List.set_cons_succ])
      refine wpAnyH_take (i := 15) (oi := { dst := some 7, op := Op.assign (Operand.tmp 48), type := 4, pos := "sort.go:167", after := #[{ on := 13, ground := Ground.data }, { on := 14, ground := Ground.chain }, { on := 0, ground := Ground.phase }, { on := 1, ground := Ground.phase }, { on := 2, ground := Ground.phase }, { on := 3, ground := Ground.phase }, { on := 4, ground := Ground.phase }, { on := 5, ground := Ground.phase }, { on := 6, ground := Ground.phase }, { on := 7, ground := Ground.phase }, { on := 8, ground := Ground.phase }, { on := 9, ground := Ground.phase }, { on := 10, ground := Ground.phase }, { on := 11, ground := Ground.phase }, { on := 12, ground := Ground.phase }, { on := 13, ground := Ground.phase }, { on := 14, ground := Ground.phase }], guard := none }) (v := ?_) rfl (by kernel_rfl) (by kernel_rfl) (by kernel_rfl) (fun _ _ _ h => h) (Or.inl ⟨by rfl, ?_⟩) (by assumption) ?_
      rotate_left
      · intro w hSw
        (try dsimp only at hSw)
        first | (go_simp; done) | (go_simp; with_reducible rfl)
      (try simp only [Act.put, List.setIfInBounds_toArray, List.set_cons_zero, List.set_cons_succ])
      refine wpAnyH_done (by kernel_rfl) ?_ _
      have HB2 := Lib.hid (HB.out.trans ((HBr.out.trans ((Below.mk hb2.os hb2.tape hb2.output hb2.size hb2.block : Below wr.heap.size wr w2).mono HBr.out.size)).mono HB.out.size))
      clear hS hS2 hb2
      go_wp2
      exact bodyPost_ret (v := .tuple #[.int .i64 (lo : Int), .bool (decide (cmpP l x.item lo = 0))]) (by simp [results, Try.results184, go_sem]; rfl) rfl ⟨⟨lo, _, rfl, HFo.out⟩, HB2.out⟩
    have hei : ¬ (lo : Int) < (n : Int) := by omega
    obtain rfl : lo = n := by omega
    have HFo := Lib.hid (foundP_end (s := x.item) HInc.out (fun j hj => HR.out.1 j (by have := HL.out; omega)))
    rw [HL.out] at HFo
    clear hend
    have hT : True := trivial
    go_wp2_with fail
    refine wp_region_held_drew (S := fun w' => True) (by kernel_rfl) hT (fun hHeld => ?_)
    clear hHeld
    refine wpAnyH_take (i := 0) (oi := { dst := some 35, op := Op.move (Operand.tmp 9), type := 3, pos := "sort.go:167", after := #[], guard := none }) (v := ?_) rfl (by kernel_rfl) (by kernel_rfl) (by kernel_rfl) (fun _ _ _ h => h) (Or.inl ⟨by rfl, ?_⟩) (by assumption) ?_
    rotate_left
    · intro w hSw
      (try dsimp only at hSw)
      first | (go_simp; done) | (go_simp; with_reducible rfl)
    (try simp only [Act.put, List.setIfInBounds_toArray, List.set_cons_zero, List.set_cons_succ])
    refine wpAnyH_take (i := 1) (oi := { dst := some 36, op := Op.move (Operand.tmp 9), type := 3, pos := "sort.go:167", after := #[], guard := none }) (v := ?_) rfl (by kernel_rfl) (by kernel_rfl) (by kernel_rfl) (fun _ _ _ h => h) (Or.inl ⟨by rfl, ?_⟩) (by assumption) ?_
    rotate_left
    · intro w hSw
      (try dsimp only at hSw)
      first | (go_simp; done) | (go_simp; with_reducible rfl)
    (try simp only [Act.put, List.setIfInBounds_toArray, List.set_cons_zero, List.set_cons_succ])
    refine wpAnyH_take (i := 2) (oi := { dst := some 37, op := Op.move (Operand.tmp 8), type := 3, pos := "sort.go:167", after := #[], guard := none }) (v := ?_) rfl (by kernel_rfl) (by kernel_rfl) (by kernel_rfl) (fun _ _ _ h => h) (Or.inl ⟨by rfl, ?_⟩) (by assumption) ?_
    rotate_left
    · intro w hSw
      (try dsimp only at hSw)
      first | (go_simp; done) | (go_simp; with_reducible rfl)
    (try simp only [Act.put, List.setIfInBounds_toArray, List.set_cons_zero, List.set_cons_succ])
    refine wpAnyH_take (i := 3) (oi := { dst := some 38, op := Op.binOp BinOp.lss 3 (Operand.tmp 36) (Operand.tmp 37) 3, type := 4, pos := "sort.go:167", after := #[{ on := 1, ground := Ground.data }, { on := 2, ground := Ground.data }], guard := none }) (v := ?_) rfl (by kernel_rfl) (by kernel_rfl) (by kernel_rfl) (fun _ _ _ h => h) (Or.inl ⟨by rfl, ?_⟩) (by assumption) ?_
    rotate_left
    · intro w hSw
      (try dsimp only at hSw)
      first | (go_simp; done) | (go_simp; with_reducible rfl)
    (try simp only [Act.put, List.setIfInBounds_toArray, List.set_cons_zero, List.set_cons_succ])
    refine wpAnyH_take (i := 4) (oi := { dst := some 39, op := Op.move (Operand.tmp 38), type := 4, pos := "sort.go:167", after := #[{ on := 3, ground := Ground.data }], guard := none }) (v := ?_) rfl (by kernel_rfl) (by kernel_rfl) (by kernel_rfl) (fun _ _ _ h => h) (Or.inl ⟨by rfl, ?_⟩) (by assumption) ?_
    rotate_left
    · intro w hSw
      (try dsimp only at hSw)
      first | (go_simp; done) | (go_simp; with_reducible rfl)
    (try simp only [Act.put, List.setIfInBounds_toArray, List.set_cons_zero, List.set_cons_succ])
    refine wpAnyH_take (i := 5) (oi := { dst := some 40, op := Op.move (Operand.tmp 2), type := 177, pos := "sort.go:167", after := #[{ on := 4, ground := Ground.guard }], guard := some (4, true) }) (v := undef) rfl (by kernel_rfl) (by kernel_rfl) (by kernel_rfl) (fun _ _ _ h => h) (Or.inr ⟨by rfl, rfl⟩) (by assumption) ?_
    (try simp only [Act.put, List.setIfInBounds_toArray, List.set_cons_zero, List.set_cons_succ])
    refine wpAnyH_take (i := 6) (oi := { dst := some 41, op := Op.move (Operand.tmp 0), type := 53, pos := "sort.go:167", after := #[{ on := 4, ground := Ground.guard }], guard := some (4, true) }) (v := undef) rfl (by kernel_rfl) (by kernel_rfl) (by kernel_rfl) (fun _ _ _ h => h) (Or.inr ⟨by rfl, rfl⟩) (by assumption) ?_
    (try simp only [Act.put, List.setIfInBounds_toArray, List.set_cons_zero, List.set_cons_succ])
    refine wpAnyH_take (i := 7) (oi := { dst := some 42, op := Op.move (Operand.tmp 9), type := 3, pos := "sort.go:167", after := #[{ on := 4, ground := Ground.guard }], guard := some (4, true) }) (v := undef) rfl (by kernel_rfl) (by kernel_rfl) (by kernel_rfl) (fun _ _ _ h => h) (Or.inr ⟨by rfl, rfl⟩) (by assumption) ?_
    (try simp only [Act.put, List.setIfInBounds_toArray, List.set_cons_zero, List.set_cons_succ])
    refine wpAnyH_take (i := 8) (oi := { dst := some 43, op := Op.indexAddr 53 (Operand.tmp 41) (Operand.tmp 42), type := 0, pos := "sort.go:167", after := #[{ on := 6, ground := Ground.data }, { on := 7, ground := Ground.data }, { on := 4, ground := Ground.guard }], guard := some (4, true) }) (v := undef) rfl (by kernel_rfl) (by kernel_rfl) (by kernel_rfl) (fun _ _ _ h => h) (Or.inr ⟨by rfl, rfl⟩) (by assumption) ?_
    (try simp only [Act.put, List.setIfInBounds_toArray, List.set_cons_zero, List.set_cons_succ])
    refine wpAnyH_take (i := 9) (oi := { dst := some 44, op := Op.load 125 (Operand.tmp 43), type := 125, pos := "sort.go:167", after := #[{ on := 8, ground := Ground.data }, { on := 4, ground := Ground.guard }], guard := some (4, true) }) (v := undef) rfl (by kernel_rfl) (by kernel_rfl) (by kernel_rfl) (fun _ _ _ h => h) (Or.inr ⟨by rfl, rfl⟩) (by assumption) ?_
    (try simp only [Act.put, List.setIfInBounds_toArray, List.set_cons_zero, List.set_cons_succ])
    refine wpAnyH_take (i := 10) (oi := { dst := some 45, op := Op.load 125 (Operand.tmp 4), type := 125, pos := "sort.go:167", after := #[{ on := 4, ground := Ground.guard }], guard := some (4, true) }) (v := undef) rfl (by kernel_rfl) (by kernel_rfl) (by kernel_rfl) (fun _ _ _ h => h) (Or.inr ⟨by rfl, rfl⟩) (by assumption) ?_
    (try simp only [Act.put, List.setIfInBounds_toArray, List.set_cons_zero, List.set_cons_succ])
    refine wpAnyH_take (i := 11) (oi := { dst := some 46, op := Op.call { callee := Callee.value (Operand.tmp 40), args := #[Operand.tmp 44, Operand.tmp 45], argTypes := #[125, 125] }, type := 3, pos := "sort.go:167", after := #[{ on := 5, ground := Ground.data }, { on := 9, ground := Ground.data }, { on := 10, ground := Ground.data }, { on := 4, ground := Ground.chain }, { on := 4, ground := Ground.guard }], guard := some (4, true) }) (v := undef) rfl (by kernel_rfl) (by kernel_rfl) (by kernel_rfl) (fun _ _ _ h => h) (Or.inr ⟨by rfl, rfl⟩) (by assumption) ?_
    (try simp only [Act.put, List.setIfInBounds_toArray, List.set_cons_zero, List.set_cons_succ])
    refine wpAnyH_take (i := 12) (oi := { dst := some 47, op := Op.binOp BinOp.eql 3 (Operand.tmp 46) (Operand.const (Value.int IntKind.i64 0)) 3, type := 4, pos := "sort.go:167", after := #[{ on := 11, ground := Ground.data }, { on := 4, ground := Ground.guard }, { on := 14, ground := Ground.gcOnly Departure.lateStores }], guard := some (4, true) }) (v := undef) rfl (by kernel_rfl) (by kernel_rfl) (by kernel_rfl) (fun _ _ _ h => h) (Or.inr ⟨by rfl, rfl⟩) (by assumption) ?_
    (try simp only [Act.put, List.setIfInBounds_toArray, List.set_cons_zero, List.set_cons_succ])
    refine wpAnyH_take (i := 13) (oi := { dst := some 48, op := Op.pick (Operand.tmp 39) (Operand.tmp 47) (Operand.const (Value.bool false)), type := 4, pos := "sort.go:167", after := #[{ on := 4, ground := Ground.data }, { on := 12, ground := Ground.data }, { on := 14, ground := Ground.gcOnly Departure.lateStores }], guard := none }) (v := ?_) rfl (by kernel_rfl) (by kernel_rfl) (by kernel_rfl) (fun _ _ _ h => h) (Or.inl ⟨by rfl, ?_⟩) (by assumption) ?_
    rotate_left
    · intro w hSw
      (try dsimp only at hSw)
      first | (go_simp; done) | (go_simp; with_reducible rfl)
    (try simp only [Act.put, List.setIfInBounds_toArray, List.set_cons_zero, List.set_cons_succ])
    refine wpAnyH_take (i := 14) (oi := { dst := some 6, op := Op.assign (Operand.tmp 35), type := 3, pos := "sort.go:167", after := #[{ on := 0, ground := Ground.data }, { on := 11, ground := Ground.chain }, { on := 0, ground := Ground.phase }, { on := 1, ground := Ground.textOnly Departure.lateStores }, { on := 2, ground := Ground.textOnly Departure.lateStores }, { on := 3, ground := Ground.textOnly Departure.lateStores }, { on := 4, ground := Ground.textOnly Departure.lateStores }, { on := 5, ground := Ground.textOnly Departure.lateStores }, { on := 6, ground := Ground.textOnly Departure.lateStores }, { on := 7, ground := Ground.textOnly Departure.lateStores }, { on := 8, ground := Ground.textOnly Departure.lateStores }, { on := 9, ground := Ground.textOnly Departure.lateStores }, { on := 10, ground := Ground.textOnly Departure.lateStores }, { on := 11, ground := Ground.textOnly Departure.lateStoresUnsure }, { on := 12, ground := Ground.textOnly Departure.lateStores }, { on := 13, ground := Ground.textOnly Departure.lateStores }], guard := none }) (v := ?_) rfl (by kernel_rfl) (by kernel_rfl) (by kernel_rfl) (fun _ _ _ h => h) (Or.inl ⟨by rfl, ?_⟩) (by assumption) ?_
    rotate_left
    · intro w hSw
      (try dsimp only at hSw)
      first | (go_simp; done) | (go_simp; with_reducible rfl)
    (try simp only [Act.put, List.setIfInBounds_toArray, List.set_cons_zero, List.set_cons_succ])
    refine wpAnyH_take (i := 15) (oi := { dst := some 7, op := Op.assign (Operand.tmp 48), type := 4, pos := "sort.go:167", after := #[{ on := 13, ground := Ground.data }, { on := 14, ground := Ground.chain }, { on := 0, ground := Ground.phase }, { on := 1, ground := Ground.phase }, { on := 2, ground := Ground.phase }, { on := 3, ground := Ground.phase }, { on := 4, ground := Ground.phase }, { on := 5, ground := Ground.phase }, { on := 6, ground := Ground.phase }, { on := 7, ground := Ground.phase }, { on := 8, ground := Ground.phase }, { on := 9, ground := Ground.phase }, { on := 10, ground := Ground.phase }, { on := 11, ground := Ground.phase }, { on := 12, ground := Ground.phase }, { on := 13, ground := Ground.phase }, { on := 14, ground := Ground.phase }], guard := none }) (v := ?_) rfl (by kernel_rfl) (by kernel_rfl) (by kernel_rfl) (fun _ _ _ h => h) (Or.inl ⟨by rfl, ?_⟩) (by assumption) ?_
    rotate_left
    · intro w hSw
      (try dsimp only at hSw)
      first | (go_simp; done) | (go_simp; with_reducible rfl)
    (try simp only [Act.put, List.setIfInBounds_toArray, List.set_cons_zero, List.set_cons_succ])
    refine wpAnyH_done (by kernel_rfl) ?_ _
    have HB2 : Hid (Below w.heap.size w wr.drew) := (HB.out.trans (HBr.out.mono HB.out.size)).trans ⟨rfl, rfl, rfl, Nat.le_refl _, fun _ _ => rfl⟩
    go_wp2
    exact bodyPost_ret (v := .tuple #[.int .i64 (lo : Int), .bool false]) (by simp [results, Try.results184, go_sem]) rfl ⟨⟨lo, false, rfl, HFo.out⟩, HB2.out⟩
/-- What a look for a price answers. -/
def PriceIs (l : List PrV) (s : ByteArray) (o : PrV) (b : Bool) : Prop := (b = true ∧ ∃ i, i < l.length ∧ (atPr l i).item = s ∧ o = atPr l i) ∨ (b = false ∧ o = PrV.zero ∧ ∀ i, i < l.length → (atPr l i).item ≠ s)
theorem priceIs_one {l : List PrV} {s : ByteArray} {o o' : PrV} {b b' : Bool} (hi : IncP l) (h : PriceIs l s o b) (h' : PriceIs l s o' b') : o = o' ∧ b = b' := by
  rcases h with ⟨rfl, i, h1, h2, rfl⟩ | ⟨rfl, rfl, h1⟩
  · rcases h' with ⟨rfl, j, g1, g2, rfl⟩ | ⟨rfl, rfl, g1⟩
    · refine ⟨?_, rfl⟩
      rcases Nat.lt_trichotomy i j with q | q | q
      · have := incP_lt hi j i q g1
        rw [h2, g2, ltS_irr] at this
        cases this
      · rw [q]
      · have := incP_lt hi i j q h1
        rw [h2, g2, ltS_irr] at this
        cases this
    · exact absurd h2 (g1 i h1)
  · rcases h' with ⟨rfl, j, g1, g2, rfl⟩ | ⟨rfl, rfl, g1⟩
    · exact absurd g2 (h1 j g1)
    · exact ⟨rfl, rfl⟩
set_option maxRecDepth 100000 in
set_option maxHeartbeats 2000000 in
theorem counterPr (w : World) (B : Nat) (a : Option Addr) (n c g : Nat) (l : List PrV) (x : PrV) (h : Prs w B a n l) (hB : B ≤ w.heap.size) (hn : n ≤ 1048576) (hinc : IncP l) (hg : w.cell? ⟨g, 0, none⟩ = some (.func (.func 161) #[] #[])) :
    Calls Try.prog 167 #[.agg #[.slice a n c, .func (.func 181) #[] #[.pointer (some ⟨g, 0, none⟩)]], .agg #[.string x.item, .int .i64 x.cents]] w fun e w' => (∃ (o : PrV) (b : Bool), e = .returned (.tuple #[.agg #[.string o.item, .int .i64 o.cents], .bool b]) ∧ PriceIs l x.item o b) ∧ Below w.heap.size w w' := by
  have hb0 : Below w.heap.size w (((w.alloc (.cells #[.slice a n c, .func (.func 181) #[] #[.pointer (some ⟨g, 0, none⟩)]] 179)).alloc (.cells #[.string x.item, .int .i64 x.cents] 125)).alloc (.cells #[.string ⟨#[]⟩, .int .i64 0] 125)) := (((Below.refl _ w).alloc (Nat.le_refl _) _).alloc (by show _ ≤ (w.heap.push _).size; simp) _).alloc (by show _ ≤ ((w.heap.push _).push _).size; simp; omega) _
  have HO := Lib.hid (h.below hb0 hB)
  have HB := Lib.hid hb0
  have HL := Lib.hid h.1
  have HInc := Lib.hid hinc
  have HG := Lib.hid ((hb0.cell (p := ⟨g, 0, none⟩) (block_lt_of_cell hg)).trans hg)
  have HA : Hid ((((w.alloc (.cells #[.slice a n c, .func (.func 181) #[] #[.pointer (some ⟨g, 0, none⟩)]] 179)).alloc (.cells #[.string x.item, .int .i64 x.cents] 125)).alloc (.cells #[.string ⟨#[]⟩, .int .i64 0] 125)).heap[w.heap.size]? = some (.cells #[.slice a n c, .func (.func 181) #[] #[.pointer (some ⟨g, 0, none⟩)]] 179 (0, 0))) := by
    show (((w.heap.push _).push _).push _)[_]? = _
    rw [Array.getElem?_push, if_neg (by simp; omega), Array.getElem?_push, if_neg (by simp), Array.getElem?_push, if_pos rfl]
  have HR : Hid ((((w.alloc (.cells #[.slice a n c, .func (.func 181) #[] #[.pointer (some ⟨g, 0, none⟩)]] 179)).alloc (.cells #[.string x.item, .int .i64 x.cents] 125)).alloc (.cells #[.string ⟨#[]⟩, .int .i64 0] 125)).heap[w.heap.size + 1 + 1]? = some (.cells #[.string ⟨#[]⟩, .int .i64 0] 125 (0, 0))) := by
    show (((w.heap.push _).push _).push _)[_]? = _
    rw [Array.getElem?_push, if_pos (by simp)]
  have hsz : (((w.alloc (.cells #[.slice a n c, .func (.func 181) #[] #[.pointer (some ⟨g, 0, none⟩)]] 179)).alloc (.cells #[.string x.item, .int .i64 x.cents] 125)).alloc (.cells #[.string ⟨#[]⟩, .int .i64 0] 125)).heap.size = w.heap.size + 3 := by show (((w.heap.push _).push _).push _).size = _; simp
  clear h hb0 hinc hg
  go_enter Try.func167, Try.ntmps167
  go_wp2_with fail
  generalize ((w.alloc (.cells #[.slice a n c, .func (.func 181) #[] #[.pointer (some ⟨g, 0, none⟩)]] 179)).alloc (.cells #[.string x.item, .int .i64 x.cents] 125)).alloc (.cells #[.string ⟨#[]⟩, .int .i64 0] 125) = w0 at HO HB HG HA HR hsz ⊢
  refine (binPr w0 B a n c g l x HO.out (by omega) hn HInc.out HG.out).mono ?_
  rintro e w1 ⟨⟨i, b, rfl, hf⟩, hb1⟩
  have HF := Lib.hid hf
  have HB1 := Lib.hid (HB.out.trans (hb1.mono HB.out.size))
  have HO1 := Lib.hid (HO.out.below hb1 (by omega))
  have hR1 := (hb1.block _ (by omega)).trans HR.out
  have HR1 := Lib.hid hR1
  obtain ⟨y0, y1⟩ := two ((hb1.block _ (by omega)).trans HA.out)
  obtain ⟨r0, r1⟩ := two hR1
  have f0 : w1.frozen? ⟨w.heap.size + 1 + 1, 0, none⟩ = false := frozen_of_row _ _ _ _ _ hR1
  have f1 : w1.frozen? ⟨w.heap.size + 1 + 1, 1, none⟩ = false := frozen_of_row _ _ _ _ _ hR1
  have hs1 := hb1.size
  clear hf hb1 hR1
  rcases b with _ | _
  · have HP : Hid (PriceIs l x.item PrV.zero false) := .inr ⟨rfl, rfl, HF.out.2.2 rfl⟩
    have hba : Below w1.heap.size w1 (w1.alloc (.cells #[.string ⟨#[]⟩, .int .i64 0] 125)) := (Below.refl _ _).alloc (Nat.le_refl _) _
    have HB2 := Lib.hid (HB1.out.trans (hba.mono HB1.out.size))
    have hR2 := (hba.block _ (by omega)).trans HR1.out
    have HX2 := Lib.hid (heap_setCell_same _ _ 1 _ _ (.int .i64 0) (heap_setCell_same _ _ 0 _ _ (.string ⟨#[]⟩) hR2))
    have HB3 := Lib.hid ((HB2.out.setCell (p := ⟨w.heap.size + 1 + 1, 0, none⟩) (by show _ ≤ w.heap.size + 1 + 1; omega) (.string ⟨#[]⟩)).setCell (p := ⟨w.heap.size + 1 + 1, 1, none⟩) (by show _ ≤ w.heap.size + 1 + 1; omega) (.int .i64 0))
    clear r0 r1 f0 f1
    obtain ⟨r0, r1⟩ := two hR2
    have f0 : (w1.alloc (.cells #[.string ⟨#[]⟩, .int .i64 0] 125)).frozen? ⟨w.heap.size + 1 + 1, 0, none⟩ = false := frozen_of_row _ _ _ _ _ hR2
    have f1 : (w1.alloc (.cells #[.string ⟨#[]⟩, .int .i64 0] 125)).frozen? ⟨w.heap.size + 1 + 1, 1, none⟩ = false := frozen_of_row _ _ _ _ _ hR2
    clear hba hR2
    go_wp2
    generalize ((w1.alloc (.cells #[.string ⟨#[]⟩, .int .i64 0] 125)).setCell ⟨w.heap.size + 1 + 1, 0, none⟩ (.string ⟨#[]⟩)).setCell ⟨w.heap.size + 1 + 1, 1, none⟩ (.int .i64 0) = wf at HX2 HB3 ⊢
    clear r0 r1
    obtain ⟨r0, r1⟩ := two HX2.out
    exact bodyPost_ret (v := .tuple #[.agg #[.string ⟨#[]⟩, .int .i64 0], .bool false]) (by simp [results, Try.results167, go_sem, r0, r1]) rfl ⟨⟨PrV.zero, false, rfl, HP.out⟩, HB3.out⟩
  obtain ⟨hil, hie⟩ := HF.out.2.1 rfl
  have hin : i < n := by rw [← HL.out]; exact hil
  have hii : (i : Int) < (n : Int) := by omega
  have HP : Hid (PriceIs l x.item (atPr l i) true) := .inl ⟨rfl, i, hil, hie, rfl⟩
  obtain ⟨b, off, rfl, hb, ho⟩ := HO1.out.2 i hin
  have ho' : PrAt w1 b (off + i * 2) (atPr l i) := ho
  clear ho hie
  generalize atPr l i = y at ho' HP
  obtain ⟨d0, d1⟩ := ho'
  have HX2 := Lib.hid (heap_setCell_same _ _ 1 _ _ (.int .i64 y.cents) (heap_setCell_same _ _ 0 _ _ (.string y.item) HR1.out))
  have HB3 := Lib.hid ((HB1.out.setCell (p := ⟨w.heap.size + 1 + 1, 0, none⟩) (by show _ ≤ w.heap.size + 1 + 1; omega) (.string y.item)).setCell (p := ⟨w.heap.size + 1 + 1, 1, none⟩) (by show _ ≤ w.heap.size + 1 + 1; omega) (.int .i64 y.cents))
  go_wp2
  generalize (w1.setCell ⟨w.heap.size + 1 + 1, 0, none⟩ (.string y.item)).setCell ⟨w.heap.size + 1 + 1, 1, none⟩ (.int .i64 y.cents) = wf at HX2 HB3 ⊢
  clear r0 r1
  obtain ⟨r0, r1⟩ := two HX2.out
  exact bodyPost_ret (v := .tuple #[.agg #[.string y.item, .int .i64 y.cents], .bool true]) (by simp [results, Try.results167, go_sem, r0, r1]) rfl ⟨⟨y, true, rfl, HP.out⟩, HB3.out⟩
/-- What knownPrice answers. -/
def KnownP (l : List PrV) (s : ByteArray) (w : World) (e : Ending) (w' : World) : Prop :=
  (∃ (o : PrV) (b : Bool), e = .returned (.tuple #[.int .i64 o.cents, .bool b]) ∧ PriceIs l s o b) ∧ Below w.heap.size w w'
set_option maxRecDepth 100000 in
set_option maxHeartbeats 2000000 in
theorem knownPr (w : World) (B : Nat) (a : Option Addr) (n c : Nat) (l : List PrV) (s : ByteArray) (h : Prs w B a n l) (hB : B ≤ w.heap.size) (hn : n ≤ 1048576) (hinc : IncP l) :
    Calls Try.prog 139 #[.slice a n c, .string s] w (KnownP l s w) := by
  have H := Lib.hid h
  have HInc := Lib.hid hinc
  clear h hinc
  go_enter Try.func139, Try.ntmps139
  go_wp2_with fail
  refine (Prlist w a n c).mono ?_
  rintro e w1 ⟨⟨g, rfl, hc⟩, hb1⟩
  have H1 := Lib.hid (H.out.below hb1 hB)
  have HB1 := Lib.hid hb1
  have HC := Lib.hid hc
  have hs1 := hb1.size
  clear hb1 hc
  go_wp2_with fail
  refine (counterPr w1 B a n c g l ⟨s, 0⟩ H1.out (by omega) hn HInc.out HC.out).mono ?_
  rintro e w2 ⟨⟨o, b, rfl, hp⟩, hb2⟩
  have HP := Lib.hid hp
  have HB2 := Lib.hid (HB1.out.trans (hb2.mono HB1.out.size))
  obtain ⟨item, cents⟩ := o
  simp only
  have HB3 := Lib.hid (HB2.out.alloc HB2.out.size (.cells #[.string item, .int .i64 cents] 125))
  clear hb2 hp
  go_wp2
  exact bodyPost_ret (v := .tuple #[.int .i64 cents, .bool b]) (by simp [results, Try.results139, go_sem]) rfl ⟨⟨⟨item, cents⟩, b, rfl, HP.out⟩, HB3.out⟩
/-- What PriceOf answers. -/
def PriceP (l : List PrV) (s : ByteArray) (w : World) (e : Ending) (w' : World) : Prop :=
  ((PrsB l = true ∧ ∃ (o : PrV) (b : Bool), e = .returned (.tuple #[.int .i64 o.cents, .bool b]) ∧ PriceIs l s o b) ∨ (PrsB l = false ∧ e = .returned (.tuple #[.int .i64 0, .bool false]))) ∧ Below w.heap.size w w'
theorem str_eqP {s t : ByteArray} : (s.toList == t.toList) = decide (s = t) := by
  rw [Bool.eq_iff_iff, beq_iff_eq, decide_eq_true_eq]
  exact ⟨text_eqP, fun h => by rw [h]⟩
set_option maxRecDepth 100000 in
set_option maxHeartbeats 2000000 in
theorem specPriceOf (w : World) (B : Nat) (a : Option Addr) (n c : Nat) (l : List PrV) (s : ByteArray) (h : Prs w B a n l) (hB : B ≤ w.heap.size) (hn : n ≤ 1048576) (hm : ∀ i, i < n → (atPr l i).item.size ≤ 1048576) :
    Calls Try.prog 86 #[.slice a n c, .string s] w (PriceP l s w) := by
  have H := Lib.hid h
  have HL := Lib.hid h.1
  have HM := Lib.hid hm
  clear h hm
  go_enter Try.func86, Try.ntmps86
  go_wp2
  go_loopw [6] (fun i wr => ∃ k : Nat, k ≤ n ∧ i = .int .i64 (k : Int) ∧ Hid (0 < k → PrsB l = true) ∧ Hid (∀ i, i < k → (atPr l i).item ≠ s) ∧ Hid (Below w.heap.size w wr)) (fun i _ => n - (intOf i).toNat)
  case atStart => exact ⟨0, Nat.zero_le _, rfl, fun h => absurd h (by omega), fun i hi => absurd hi (by omega), Below.refl _ _⟩
  case round =>
    obtain ⟨k, hk, rfl, HO, HN, HBr⟩ := hrel
    have H1 := Lib.hid (H.out.below HBr.out hB)
    have hsr := HBr.out.size
    go_wp2_with fail
    refine (specPrsOk wr B a n c l H1.out hn HM.out).mono ?_
    rintro e w1 ⟨rfl, hb1⟩
    have HB1 := Lib.hid (HBr.out.trans (hb1.mono HBr.out.size))
    have H2 := Lib.hid (H1.out.below hb1 (by omega))
    clear hb1
    rcases hok : PrsB l with _ | _
    · have HK := Lib.hid hok
      clear hok
      go_wp2
      exact bodyPost_ret (v := .tuple #[.int .i64 0, .bool false]) (by simp [results, Try.results86, go_sem]) rfl ⟨.inr ⟨HK.out, rfl⟩, HB1.out⟩
    have HK := Lib.hid hok
    clear hok
    by_cases hlt : k < n
    rotate_left
    · have hki : ¬ (k : Int) < (n : Int) := by omega
      have HF : Hid (PriceIs l s PrV.zero false) := .inr ⟨rfl, rfl, fun i hi => HN.out i (by have := HL.out; omega)⟩
      go_wp2
      exact bodyPost_ret (v := .tuple #[.int .i64 0, .bool false]) (by simp [results, Try.results86, go_sem]) rfl ⟨.inl ⟨HK.out, PrV.zero, false, rfl, HF.out⟩, HB1.out⟩
    have hki : (k : Int) < (n : Int) := by omega
    obtain ⟨b, off, rfl, hb, ho⟩ := H2.out.2 k hlt
    have ho' : PrAt w1 b (off + k * 2) (atPr l k) := ho
    have HY : Hid ((atPr l k).item = s → PriceIs l s (atPr l k) true) := fun e => .inl ⟨rfl, k, by rw [HL.out]; exact hlt, e, rfl⟩
    have HNn : Hid ((atPr l k).item ≠ s → ∀ i, i < k + 1 → (atPr l i).item ≠ s) := fun e i hi => by
      rcases Nat.lt_or_ge i k with g | g
      · exact HN.out i g
      · obtain rfl : i = k := by omega
        exact e
    clear ho
    generalize atPr l k = y at ho' HY HNn
    obtain ⟨d0, d1⟩ := ho'
    by_cases he : y.item = s
    · have heq : (y.item.toList == s.toList) = true := by rw [str_eqP]; exact decide_eq_true he
      have HP := Lib.hid (HY.out he)
      clear he
      go_wp2
      exact bodyPost_ret (v := .tuple #[.int .i64 y.cents, .bool true]) (by simp [results, Try.results86, go_sem]) rfl ⟨.inl ⟨HK.out, y, true, rfl, HP.out⟩, HB1.out⟩
    · have heq : (y.item.toList == s.toList) = false := by rw [str_eqP]; exact decide_eq_false he
      have HN2 := Lib.hid (HNn.out he)
      have HO2 : Hid (0 < k + 1 → PrsB l = true) := fun _ => HK.out
      clear he
      go_wp2
      go_roundw
      case rel => exact ⟨k + 1, by omega, by go_num, HO2, HN2, HB1⟩
      case measure => simp [intOf]; omega
end Go.Proofs.Ytdbdmfaphdjdpaa
