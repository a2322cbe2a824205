/- Walks and mathematics that several claims share, part 34. -/
import Derived.Test.YtgagchlcafdiaaaGreatGb33
import Derived.Test.YtgagchlcafdiaaaGreatGb31
import Derived.Test.YtgagchlcafdiaaaGreatGb29
import Derived.Test.YtgagchlcafdiaaaGreatGb10
import Derived.Deep.Cut
import Derived.Laws.EntriesVeiled
import Derived.Deep.RegionHeld3
import Derived.IntWalk
namespace Go.Proofs.YtgagchlcafdiaaaGreat
open Go.RowKit
open Go in
theorem lk34 {P : Program} {ops : Array Oper} {Q : Exit → Act → World → Prop} {md : Region.Mode} {S : World → Prop} {i : Nat} {oi : Oper} {v : Value} {fuel : Nat} {listed : Array Bool} {a : Act} {w : World} (hi : ops[i]? = some oi) (hd : (Region.wanted oi (yielded ops a.tmps) = true ∧ ∀ w, S w → (execOp a.eval oi).run P w = .ok (.value v) w) ∨ (Region.wanted oi (yielded ops a.tmps) = false ∧ v = undef)) (h : wpAnyH P md ops Q S fuel (listed.setIfInBounds i true) (a.put oi.dst v) w) (hs : Region.noSelect ops = true := by kernel_rfl) (hf : Region.free md ops listed i = true := by kernel_rfl) (hr : (Region.ready md ops listed).contains i = true := by kernel_rfl) (hQ : ∀ c a w, Q (.panic c) (a.put oi.dst v) w → Q (.panic c) a w := by exact fun _ _ _ h => h) (hS : S w := by assumption) : wpAnyH P md ops Q S (fuel + 1) listed a w := wpAnyH_take hi hs hf hr hQ hd hS h
set_option linter.unusedVariables false
set_option linter.unusedSimpArgs false

theorem bl_irr : ∀ x : List UInt8, Op.bytesLess x x = false
 | [] => rfl
 | a :: x => by
  have h : ¬ a < a := by rw [UInt8.lt_iff_toNat_lt]; omega
  simp [Op.bytesLess, bl_irr x, h]
theorem bl_trans : ∀ {x y z : List UInt8}, Op.bytesLess x y = true → Op.bytesLess y z = true → Op.bytesLess x z = true
 | [], [], z, h, _ => by cases h
 | _ :: _, [], z, h, _ => by cases h
 | _, _ :: _, [], _, h => by cases h
 | [], _ :: _, _ :: _, _, _ => rfl
 | a :: x, b :: y, c :: z, h1, h2 => by
  simp only [Op.bytesLess, Bool.or_eq_true, decide_eq_true_eq, Bool.and_eq_true, beq_iff_eq] at h1 h2 ⊢
  rcases h1 with h1 | ⟨rfl, h1⟩
  ·rcases h2 with h2 | ⟨rfl, _⟩
   ·left; rw [UInt8.lt_iff_toNat_lt] at *; omega
   ·exact .inl h1
  ·rcases h2 with h2 | ⟨rfl, h2⟩
   ·exact .inl h2
   ·exact .inr ⟨rfl, bl_trans h1 h2⟩
theorem ltS_trans {s t u : ByteArray} (h : ltS s t = true) (h2 : ltS t u = true) : ltS s u = true := bl_trans h h2
theorem ltS_irr (s : ByteArray) : ltS s s = false := bl_irr _
theorem text_eqP {x y : ByteArray} (h : x.toList = y.toList) : x = y := by
 rw [Lib.toList_data, Lib.toList_data] at h
 cases x; cases y
 simpa using h
theorem cmp_zero {s t : ByteArray} : cmpS s t = 0 ↔ s = t := by
 constructor
 ·intro h
  unfold cmpS at h
  by_cases h1 : ltS s t = true
  ·rw [if_pos h1] at h; omega
  ·rw [if_neg h1] at h
   by_cases h2 : (s.toList == t.toList) = true
   ·exact text_eqP (by simpa using h2)
   ·rw [if_neg h2] at h; omega
 ·rintro rfl
  unfold cmpS
  rw [if_neg (by rw [ltS_irr]; simp), if_pos (by simp)]
theorem cmp_neg {s t : ByteArray} : cmpS s t < 0 ↔ ltS s t = true := by
 constructor
 ·exact cmp_yes
 ·intro h
  unfold cmpS
  rw [if_pos h]
  omega
def IncP (l : List PrV) : Prop := ∀ i, i < l.length → Princ l i = true
theorem incP_of {l : List PrV} (h : PrsB l = true) : IncP l := fun i hi => by
 unfold PrsB sortB at h
 simp only [Bool.and_eq_true, List.all_eq_true, List.mem_range] at h
 exact h.2.1 i hi
theorem incP_lt {l : List PrV} (h : IncP l) : ∀ j i, i < j → j < l.length → ltS (atPr l i).item (atPr l j).item = true
 | 0, _, h1, _ => absurd h1 (by omega)
 | j + 1, i, h1, h2 => by
  have hs : ltS (atPr l j).item (atPr l (j + 1)).item = true := by
   have := h (j + 1) h2
   unfold Princ at this
   simpa using this
  rcases Nat.lt_or_ge i j with g | g
  ·exact ltS_trans (incP_lt h j i g (by omega)) hs
  ·obtain rfl : i = j := by omega
   exact hs
def cmpP (l : List PrV) (s : ByteArray) (j : Nat) : Int := cmpS (atPr l j).item s
theorem cmpP_down {l : List PrV} {s : ByteArray} (h : IncP l) {m : Nat} (hm : m < l.length) (hc : cmpP l s m < 0) : ∀ j, j < m + 1 → cmpP l s j < 0 := fun j hj => by
 rcases Nat.lt_or_ge j m with h1 | h1
 ·exact cmp_neg.2 (ltS_trans (incP_lt h m j h1 hm) (cmp_neg.1 hc))
 ·obtain rfl : j = m := by omega
  exact hc
theorem cmpP_up {l : List PrV} {s : ByteArray} (h : IncP l) {m : Nat} (hc : 0 ≤ cmpP l s m) : ∀ j, m ≤ j → j < l.length → 0 ≤ cmpP l s j := fun j hj hl => by
 rcases Nat.lt_or_ge m j with h1 | h1
 ·refine Int.not_lt.1 fun hn => ?_
  have : cmpP l s m < 0 := cmp_neg.2 (ltS_trans (incP_lt h j m h1 hl) (cmp_neg.1 hn))
  omega
 ·obtain rfl : j = m := by omega
  exact hc
theorem noneP_of {l : List PrV} {s : ByteArray} (h : IncP l) {k : Nat} (h1 : ∀ j, j < k → cmpP l s j < 0) (h2 : k < l.length → 0 ≤ cmpP l s k ∧ cmpP l s k ≠ 0) : ∀ j, j < l.length → (atPr l j).item ≠ s := fun j hj e => by
 have ez : cmpP l s j = 0 := cmp_zero.2 e
 rcases Nat.lt_trichotomy j k with g | g | g
 ·have := h1 j g; omega
 ·subst g
  exact (h2 hj).2 ez
 ·have hlt := incP_lt h j k g hj
  rw [e] at hlt
  have a1 := (h2 (by omega)).1
  have a2 : cmpP l s k < 0 := cmp_neg.2 hlt
  omega
def FoundP (l : List PrV) (s : ByteArray) (i : Nat) (b : Bool) : Prop := i ≤ l.length ∧ (b = true → i < l.length ∧ (atPr l i).item = s) ∧ (b = false → ∀ j, j < l.length → (atPr l j).item ≠ s)
theorem foundP_end {l : List PrV} {s : ByteArray} (h : IncP l) (h1 : ∀ j, j < l.length → cmpP l s j < 0) : FoundP l s l.length false :=
 ⟨Nat.le_refl _, fun h => (by cases h), fun _ => noneP_of h h1 (fun h => absurd h (by omega))⟩
theorem foundP_mid {l : List PrV} {s : ByteArray} (h : IncP l) {k : Nat} (hk : k < l.length) (h1 : ∀ j, j < k → cmpP l s j < 0) (h2 : 0 ≤ cmpP l s k) : FoundP l s k (decide (cmpP l s k = 0)) :=
 ⟨by omega, fun e => ⟨hk, cmp_zero.1 (of_decide_eq_true e)⟩, fun e => noneP_of h h1 fun _ => ⟨h2, of_decide_eq_false e⟩⟩
theorem two {w : World} {g : Nat} {T : TypeId} {a b : Value} (h : w.heap[g]? = some (.cells #[a, b] T (0, 0))) : w.cell? ⟨g, 0, none⟩ = some a ∧ w.cell? ⟨g, 1, none⟩ = some b := ⟨(cell_of_row _ _ _ _ _ _ h).trans rfl, (cell_of_row _ _ _ _ _ _ h).trans rfl⟩

set_option maxRecDepth 100000 in
set_option maxHeartbeats 20000000 in
theorem binPr (w : World) (B : Nat) (a : Option Addr) (n c g : Nat) (l : List PrV) (x : PrV) (h : Prs w B a n l) (hB : B ≤ w.heap.size) (hn : n ≤ 1048576) (hinc : IncP l) (hg : w.cell? ⟨g, 0, none⟩ = some (.func (.func 56) #[] #[])) :
  Calls Tryz.prog 81 #[.slice a n c, .agg #[.string x.item, .int .i64 x.cents], .func (.func 83) #[] #[.pointer (some ⟨g, 0, none⟩)]] w fun e w' => (∃ (i : Nat) (b : Bool), e = .returned (.tuple #[.int .i64 (i : Int), .bool b]) ∧ FoundP l x.item i b) ∧ Below w.heap.size w w' := by
 have hb0 : Below w.heap.size w (w.alloc (.cells #[.string x.item, .int .i64 x.cents] 63)) := (Below.refl _ w).alloc (Nat.le_refl _) _
 have HO := Lib.hid (h.below hb0 hB)
 have HB := Lib.hid hb0
 have HX := Lib.hid (heap_alloc_new w (.cells #[.string x.item, .int .i64 x.cents] 63))
 have HL := Lib.hid h.1
 have HInc := Lib.hid hinc
 have hglt := block_lt_of_cell hg
 have HG := Lib.hid ((hb0.cell (p := ⟨g, 0, none⟩) hglt).trans hg)
 have hsz : w.heap.size < (w.alloc (.cells #[.string x.item, .int .i64 x.cents] 63)).heap.size := by show _ < (w.heap.push _).size; simp
 clear h hb0 hinc hg
 go_enter Tryz.func81, Tryz.ntmps81
 go_upto_region 1 with fail
 generalize w.alloc (.cells #[.string x.item, .int .i64 x.cents] 63) = w0 at HO HB HX HG hsz ⊢
 go_wp2
 go_loopw [9, 10] (fun s t wr => ∃ lo hi : Nat, lo ≤ hi ∧ hi ≤ n ∧ s = .int .i64 (lo : Int) ∧ t = .int .i64 (hi : Int) ∧ Hid ((∀ j, j < lo → cmpP l x.item j < 0) ∧ ∀ j, hi ≤ j → j < n → 0 ≤ cmpP l x.item j) ∧ Hid (Below w0.heap.size w0 wr)) (fun s t _ => (intOf t - intOf s).toNat)
 case atStart => exact ⟨0, n, by omega, by omega, rfl, rfl, ⟨fun j hj => absurd hj (by omega), fun j h1 h2 => absurd h1 (by omega)⟩, Below.refl _ _⟩
 case round =>
  obtain ⟨lo, hi, hlh, hhn, rfl, rfl, HR, HBr⟩ := hrel
  obtain ⟨e0, e1⟩ := two ((HBr.out.block _ (by omega)).trans HX.out)
  have hgr := (HBr.out.cell (p := ⟨g, 0, none⟩) (by show g < w0.heap.size; omega)).trans HG.out
  by_cases hlt : lo < hi
  ·have hli : (lo : Int) < (hi : Int) := by omega
   obtain ⟨m, hm⟩ : ∃ m, m = (lo + hi) / 2 := ⟨_, rfl⟩
   have hmi : ((lo : Int) + (hi : Int)) / 2 = (m : Int) := by omega
   have hmn : m < n := by omega
   have hml : lo ≤ m ∧ m < hi := by omega
   obtain ⟨hml1, hml2⟩ := hml
   clear hm
   go_upto_region 5 with fail
   have hmn' : (m : Int) < (n : Int) := by omega
   obtain ⟨b, off, rfl, hb, ho⟩ := HO.out.2 m hmn
   have HOk : Hid (PrAt w0 b (off + m * 2) (atPr l m)) := ho
   clear ho
   have HC : Hid (cmpP l x.item m = cmpS (atPr l m).item x.item) := rfl
   generalize atPr l m = y at HOk HC
   obtain ⟨d0, d1⟩ := HOk.out.kept (HBr.out.block b (by omega))
   have hS : wr.drew.cell? ⟨b, off + m * 2, none⟩ = some (.string y.item) ∧ wr.drew.cell? ⟨b, off + m * 2 + 1, none⟩ = some (.int .i64 y.cents) ∧ wr.drew.cell? ⟨w.heap.size, 0, none⟩ = some (.string x.item) ∧ wr.drew.cell? ⟨w.heap.size, 1, none⟩ = some (.int .i64 x.cents) ∧ wr.drew.cell? ⟨g, 0, none⟩ = some (.func (.func 56) #[] #[]) := ⟨d0, d1, e0, e1, hgr⟩
   go_wp2_with fail
   go_region_held3 (fun w' => w'.cell? ⟨b, off + m * 2, none⟩ = some (.string y.item) ∧ w'.cell? ⟨b, off + m * 2 + 1, none⟩ = some (.int .i64 y.cents) ∧ w'.cell? ⟨w.heap.size, 0, none⟩ = some (.string x.item) ∧ w'.cell? ⟨w.heap.size, 1, none⟩ = some (.int .i64 x.cents) ∧ w'.cell? ⟨g, 0, none⟩ = some (.func (.func 56) #[] #[])) (first | with_reducible exact hS | with_reducible exact hS2)
    (first | (go_at_call 83; refine (Prord y x g _ hS.2.2.2.2).mono ?_; rintro e w2 ⟨rfl, hb2⟩; have ⟨q0, q1, q2, q3, q4⟩ := hS; have hS2 : w2.cell? ⟨b, off + m * 2, none⟩ = some (.string y.item) ∧ w2.cell? ⟨b, off + m * 2 + 1, none⟩ = some (.int .i64 y.cents) ∧ w2.cell? ⟨w.heap.size, 0, none⟩ = some (.string x.item) ∧ w2.cell? ⟨w.heap.size, 1, none⟩ = some (.int .i64 x.cents) ∧ w2.cell? ⟨g, 0, none⟩ = some (.func (.func 56) #[] #[]) := ⟨(hb2.cell (block_lt_of_cell q0)).trans q0, (hb2.cell (block_lt_of_cell q1)).trans q1, (hb2.cell (block_lt_of_cell q2)).trans q2, (hb2.cell (block_lt_of_cell q3)).trans q3, (hb2.cell (block_lt_of_cell q4)).trans q4⟩; clear q0 q1 q2 q3 q4))
   have HB2 := Lib.hid (HBr.out.trans ((Below.mk hb2.os hb2.tape hb2.output hb2.size hb2.block : Below wr.heap.size wr w2).mono HBr.out.size))
   clear hS hS2 hb2 d0 d1 e0 e1 hgr
   have HDn := Lib.hid (fun hc => cmpP_down (s := x.item) HInc.out (m := m) (by rw [HL.out]; exact hmn) hc)
   have HUp := Lib.hid (fun hc => cmpP_up (s := x.item) HInc.out (m := m) hc)
   rw [← HC.out]
   generalize cmpP l x.item m = cm at HDn HUp ⊢
   by_cases hc : cm < 0
   ·have HRn : Hid ((∀ j, j < m + 1 → cmpP l x.item j < 0) ∧ ∀ j, hi ≤ j → j < n → 0 ≤ cmpP l x.item j) := ⟨HDn.out hc, HR.out.2⟩
    go_wp2
    go_roundw
    case rel => exact ⟨m + 1, hi, by omega, by omega, by go_num, rfl, HRn, HB2⟩
    case measure => simp [intOf]; omega
   ·have HRn : Hid ((∀ j, j < lo → cmpP l x.item j < 0) ∧ ∀ j, m ≤ j → j < n → 0 ≤ cmpP l x.item j) := ⟨HR.out.1, fun j h1 h2 => HUp.out (by omega) j h1 (by rw [HL.out]; exact h2)⟩
    go_wp2
    go_roundw
    case rel => exact ⟨lo, m, by omega, by omega, rfl, by go_num, HRn, HB2⟩
    case measure => simp [intOf]; omega
  obtain rfl : lo = hi := by omega
  have hll : ¬ (lo : Int) < (lo : Int) := by omega
  clear hlt
  by_cases hend : lo < n
  ·have hei : (lo : Int) < (n : Int) := by omega
   have HFo := Lib.hid (foundP_mid (s := x.item) HInc.out (k := lo) (by rw [HL.out]; exact hend) HR.out.1 (HR.out.2 lo (Nat.le_refl _) hend))
   obtain ⟨b, off, rfl, hb, ho⟩ := HO.out.2 lo hend
   have HOk : Hid (PrAt w0 b (off + lo * 2) (atPr l lo)) := ho
   clear ho
   have HC : Hid (cmpP l x.item lo = cmpS (atPr l lo).item x.item) := rfl
   generalize atPr l lo = y at HOk HC
   obtain ⟨d0, d1⟩ := HOk.out.kept (HBr.out.block b (by omega))
   have hS : wr.drew.cell? ⟨b, off + lo * 2, none⟩ = some (.string y.item) ∧ wr.drew.cell? ⟨b, off + lo * 2 + 1, none⟩ = some (.int .i64 y.cents) ∧ wr.drew.cell? ⟨w.heap.size, 0, none⟩ = some (.string x.item) ∧ wr.drew.cell? ⟨w.heap.size, 1, none⟩ = some (.int .i64 x.cents) ∧ wr.drew.cell? ⟨g, 0, none⟩ = some (.func (.func 56) #[] #[]) := ⟨d0, d1, e0, e1, hgr⟩
   go_wp2_with fail
   refine wp_region_held_drew (S := fun w' => w'.cell? ⟨b, off + lo * 2, none⟩ = some (.string y.item) ∧ w'.cell? ⟨b, off + lo * 2 + 1, none⟩ = some (.int .i64 y.cents) ∧ w'.cell? ⟨w.heap.size, 0, none⟩ = some (.string x.item) ∧ w'.cell? ⟨w.heap.size, 1, none⟩ = some (.int .i64 x.cents) ∧ w'.cell? ⟨g, 0, none⟩ = some (.func (.func 56) #[] #[])) (by kernel_rfl) hS (fun hHeld => ?_)
   clear hHeld
   refine lk34 (i := 0) (oi := ⟨some 35, .move (.tmp 9), 3, "sort.go:167", #[], none⟩) (v := ?_) rfl (Or.inl ⟨by rfl, ?_⟩) ?_
   rotate_left
   ·intro w hSw
    (try dsimp only at hSw)
    first | (go_simp; done) | (go_simp; with_reducible rfl)
   (try simp only [Act.put, List.setIfInBounds_toArray, List.set_cons_zero, List.set_cons_succ])
   refine lk34 (i := 1) (oi := ⟨some 36, .move (.tmp 9), 3, "sort.go:167", #[], none⟩) (v := ?_) rfl (Or.inl ⟨by rfl, ?_⟩) ?_
   rotate_left
   ·intro w hSw
    (try dsimp only at hSw)
    first | (go_simp; done) | (go_simp; with_reducible rfl)
   (try simp only [Act.put, List.setIfInBounds_toArray, List.set_cons_zero, List.set_cons_succ])
   refine lk34 (i := 2) (oi := ⟨some 37, .move (.tmp 8), 3, "sort.go:167", #[], none⟩) (v := ?_) rfl (Or.inl ⟨by rfl, ?_⟩) ?_
   rotate_left
   ·intro w hSw
    (try dsimp only at hSw)
    first | (go_simp; done) | (go_simp; with_reducible rfl)
   (try simp only [Act.put, List.setIfInBounds_toArray, List.set_cons_zero, List.set_cons_succ])
   refine lk34 (i := 3) (oi := ⟨some 38, .binOp .lss 3 (.tmp 36) (.tmp 37) 3, 4, "sort.go:167", #[⟨1, .data⟩, ⟨2, .data⟩], none⟩) (v := ?_) rfl (Or.inl ⟨by rfl, ?_⟩) ?_
   rotate_left
   ·intro w hSw
    (try dsimp only at hSw)
    first | (go_simp; done) | (go_simp; with_reducible rfl)
   (try simp only [Act.put, List.setIfInBounds_toArray, List.set_cons_zero, List.set_cons_succ])
   refine lk34 (i := 4) (oi := ⟨some 39, .move (.tmp 38), 4, "sort.go:167", #[⟨3, .data⟩], none⟩) (v := ?_) rfl (Or.inl ⟨by rfl, ?_⟩) ?_
   rotate_left
   ·intro w hSw
    (try dsimp only at hSw)
    first | (go_simp; done) | (go_simp; with_reducible rfl)
   (try simp only [Act.put, List.setIfInBounds_toArray, List.set_cons_zero, List.set_cons_succ])
   refine lk34 (i := 5) (oi := ⟨some 40, .move (.tmp 2), 66, "sort.go:167", #[⟨4, .guard⟩], some (4, true)⟩) (v := ?_) rfl (Or.inl ⟨by rfl, ?_⟩) ?_
   rotate_left
   ·intro w hSw
    (try dsimp only at hSw)
    first | (go_simp; done) | (go_simp; with_reducible rfl)
   (try simp only [Act.put, List.setIfInBounds_toArray, List.set_cons_zero, List.set_cons_succ])
   refine lk34 (i := 6) (oi := ⟨some 41, .move (.tmp 0), 25, "sort.go:167", #[⟨4, .guard⟩], some (4, true)⟩) (v := ?_) rfl (Or.inl ⟨by rfl, ?_⟩) ?_
   rotate_left
   ·intro w hSw
    (try dsimp only at hSw)
    first | (go_simp; done) | (go_simp; with_reducible rfl)
   (try simp only [Act.put, List.setIfInBounds_toArray, List.set_cons_zero, List.set_cons_succ])
   refine lk34 (i := 7) (oi := ⟨some 42, .move (.tmp 9), 3, "sort.go:167", #[⟨4, .guard⟩], some (4, true)⟩) (v := ?_) rfl (Or.inl ⟨by rfl, ?_⟩) ?_
   rotate_left
   ·intro w hSw
    (try dsimp only at hSw)
    first | (go_simp; done) | (go_simp; with_reducible rfl)
   (try simp only [Act.put, List.setIfInBounds_toArray, List.set_cons_zero, List.set_cons_succ])
   refine lk34 (i := 8) (oi := ⟨some 43, .indexAddr 25 (.tmp 41) (.tmp 42), 0, "sort.go:167", #[⟨6, .data⟩, ⟨7, .data⟩, ⟨4, .guard⟩], some (4, true)⟩) (v := ?_) rfl (Or.inl ⟨by rfl, ?_⟩) ?_
   rotate_left
   ·intro w hSw
    (try dsimp only at hSw)
    first | (go_simp; done) | (go_simp; with_reducible rfl)
   (try simp only [Act.put, List.setIfInBounds_toArray, List.set_cons_zero, List.set_cons_succ])
   refine lk34 (i := 9) (oi := ⟨some 44, .load 63 (.tmp 43), 63, "sort.go:167", #[⟨8, .data⟩, ⟨4, .guard⟩], some (4, true)⟩) (v := ?_) rfl (Or.inl ⟨by rfl, ?_⟩) ?_
   rotate_left
   ·intro w hSw
    (try dsimp only at hSw)
    first | (go_simp; done) | (go_simp; with_reducible rfl)
   (try simp only [Act.put, List.setIfInBounds_toArray, List.set_cons_zero, List.set_cons_succ])
   refine lk34 (i := 10) (oi := ⟨some 45, .load 63 (.tmp 4), 63, "sort.go:167", #[⟨4, .guard⟩], some (4, true)⟩) (v := ?_) rfl (Or.inl ⟨by rfl, ?_⟩) ?_
   rotate_left
   ·intro w hSw
    (try dsimp only at hSw)
    first | (go_simp; done) | (go_simp; with_reducible rfl)
   (try simp only [Act.put, List.setIfInBounds_toArray, List.set_cons_zero, List.set_cons_succ])
   refine rk 11 rfl (fun K hK => ?_)
   go_simp
   go_at_call 83
   refine (Prord y x g _ hS.2.2.2.2).mono ?_
   rintro e w2 ⟨rfl, hb2⟩
   rw [← HC.out]
   have ⟨q0, q1, q2, q3, q4⟩ := hS
   have hS2 : w2.cell? ⟨b, off + lo * 2, none⟩ = some (.string y.item) ∧ w2.cell? ⟨b, off + lo * 2 + 1, none⟩ = some (.int .i64 y.cents) ∧ w2.cell? ⟨w.heap.size, 0, none⟩ = some (.string x.item) ∧ w2.cell? ⟨w.heap.size, 1, none⟩ = some (.int .i64 x.cents) ∧ w2.cell? ⟨g, 0, none⟩ = some (.func (.func 56) #[] #[]) := ⟨(hb2.cell (block_lt_of_cell q0)).trans q0, (hb2.cell (block_lt_of_cell q1)).trans q1, (hb2.cell (block_lt_of_cell q2)).trans q2, (hb2.cell (block_lt_of_cell q3)).trans q3, (hb2.cell (block_lt_of_cell q4)).trans q4⟩
   clear q0 q1 q2 q3 q4
   refine hK.out _ _ hS2 (fun hHeld2 => ?_)
   clear hK K
   (try simp only [Act.put, List.setIfInBounds_toArray, List.set_cons_zero, List.set_cons_succ])
   refine lk34 (i := 12) (oi := ⟨some 47, .binOp .eql 3 (.tmp 46) (.const (Value.int IntKind.i64 0)) 3, 4, "sort.go:167", #[⟨11, .data⟩, ⟨4, .guard⟩, { on := 14, ground := Ground.gcOnly Departure.lateStores }], some (4, true)⟩) (v := ?_) rfl (Or.inl ⟨by rfl, ?_⟩) ?_
   rotate_left
   ·intro w hSw
    (try dsimp only at hSw)
    first | (go_simp; done) | (go_simp; with_reducible rfl)
   (try simp only [Act.put, List.setIfInBounds_toArray, List.set_cons_zero, List.set_cons_succ])
   refine lk34 (i := 13) (oi := ⟨some 48, .pick (.tmp 39) (.tmp 47) (.const (Value.bool false)), 4, "sort.go:167", #[⟨4, .data⟩, ⟨12, .data⟩, { on := 14, ground := Ground.gcOnly Departure.lateStores }], none⟩) (v := ?_) rfl (Or.inl ⟨by rfl, ?_⟩) ?_
   rotate_left
   ·intro w hSw
    (try dsimp only at hSw)
    first | (go_simp; done) | (go_simp; with_reducible rfl)
   (try simp only [Act.put, List.setIfInBounds_toArray, List.set_cons_zero, List.set_cons_succ])
   refine lk34 (i := 14) (oi := ⟨some 6, .assign (.tmp 35), 3, "sort.go:167", #[⟨0, .data⟩, ⟨11, .chain⟩, ⟨0, .phase⟩, ⟨1, .textOnly .lateStores⟩, ⟨2, .textOnly .lateStores⟩, ⟨3, .textOnly .lateStores⟩, ⟨4, .textOnly .lateStores⟩, ⟨5, .textOnly .lateStores⟩, ⟨6, .textOnly .lateStores⟩, ⟨7, .textOnly .lateStores⟩, ⟨8, .textOnly .lateStores⟩, ⟨9, .textOnly .lateStores⟩, ⟨10, .textOnly .lateStores⟩, ⟨11, .textOnly .lateStoresUnsure⟩, ⟨12, .textOnly .lateStores⟩, ⟨13, .textOnly .lateStores⟩], none⟩) (v := ?_) rfl (Or.inl ⟨by rfl, ?_⟩) ?_
   rotate_left
   ·intro w hSw
    (try dsimp only at hSw)
    first | (go_simp; done) | (go_simp; with_reducible rfl)
   (try simp only [Act.put, List.setIfInBounds_toArray, List.set_cons_zero, List.set_cons_succ])
   refine lk34 (i := 15) (oi := ⟨some 7, .assign (.tmp 48), 4, "sort.go:167", #[⟨13, .data⟩, ⟨14, .chain⟩, ⟨0, .phase⟩, ⟨1, .phase⟩, ⟨2, .phase⟩, ⟨3, .phase⟩, ⟨4, .phase⟩, ⟨5, .phase⟩, ⟨6, .phase⟩, ⟨7, .phase⟩, ⟨8, .phase⟩, ⟨9, .phase⟩, ⟨10, .phase⟩, ⟨11, .phase⟩, ⟨12, .phase⟩, ⟨13, .phase⟩, ⟨14, .phase⟩], none⟩) (v := ?_) rfl (Or.inl ⟨by rfl, ?_⟩) ?_
   rotate_left
   ·intro w hSw
    (try dsimp only at hSw)
    first | (go_simp; done) | (go_simp; with_reducible rfl)
   (try simp only [Act.put, List.setIfInBounds_toArray, List.set_cons_zero, List.set_cons_succ])
   refine wpAnyH_done (by kernel_rfl) ?_ _
   have HB2 := Lib.hid (HB.out.trans ((HBr.out.trans ((Below.mk hb2.os hb2.tape hb2.output hb2.size hb2.block : Below wr.heap.size wr w2).mono HBr.out.size)).mono HB.out.size))
   clear hS hS2 hb2
   go_wp2
   exact bodyPost_ret (v := .tuple #[.int .i64 (lo : Int), .bool (decide (cmpP l x.item lo = 0))]) (by simp [results, Tryz.results81, go_sem]; rfl) rfl ⟨⟨lo, _, rfl, HFo.out⟩, HB2.out⟩
  have hei : ¬ (lo : Int) < (n : Int) := by omega
  obtain rfl : lo = n := by omega
  have HFo := Lib.hid (foundP_end (s := x.item) HInc.out (fun j hj => HR.out.1 j (by have := HL.out; omega)))
  rw [HL.out] at HFo
  clear hend
  have hT : True := trivial
  go_wp2_with fail
  refine wp_region_held_drew (S := fun w' => True) (by kernel_rfl) hT (fun hHeld => ?_)
  clear hHeld
  refine lk34 (i := 0) (oi := ⟨some 35, .move (.tmp 9), 3, "sort.go:167", #[], none⟩) (v := ?_) rfl (Or.inl ⟨by rfl, ?_⟩) ?_
  rotate_left
  ·intro w hSw
   (try dsimp only at hSw)
   first | (go_simp; done) | (go_simp; with_reducible rfl)
  (try simp only [Act.put, List.setIfInBounds_toArray, List.set_cons_zero, List.set_cons_succ])
  refine lk34 (i := 1) (oi := ⟨some 36, .move (.tmp 9), 3, "sort.go:167", #[], none⟩) (v := ?_) rfl (Or.inl ⟨by rfl, ?_⟩) ?_
  rotate_left
  ·intro w hSw
   (try dsimp only at hSw)
   first | (go_simp; done) | (go_simp; with_reducible rfl)
  (try simp only [Act.put, List.setIfInBounds_toArray, List.set_cons_zero, List.set_cons_succ])
  refine lk34 (i := 2) (oi := ⟨some 37, .move (.tmp 8), 3, "sort.go:167", #[], none⟩) (v := ?_) rfl (Or.inl ⟨by rfl, ?_⟩) ?_
  rotate_left
  ·intro w hSw
   (try dsimp only at hSw)
   first | (go_simp; done) | (go_simp; with_reducible rfl)
  (try simp only [Act.put, List.setIfInBounds_toArray, List.set_cons_zero, List.set_cons_succ])
  refine lk34 (i := 3) (oi := ⟨some 38, .binOp .lss 3 (.tmp 36) (.tmp 37) 3, 4, "sort.go:167", #[⟨1, .data⟩, ⟨2, .data⟩], none⟩) (v := ?_) rfl (Or.inl ⟨by rfl, ?_⟩) ?_
  rotate_left
  ·intro w hSw
   (try dsimp only at hSw)
   first | (go_simp; done) | (go_simp; with_reducible rfl)
  (try simp only [Act.put, List.setIfInBounds_toArray, List.set_cons_zero, List.set_cons_succ])
  refine lk34 (i := 4) (oi := ⟨some 39, .move (.tmp 38), 4, "sort.go:167", #[⟨3, .data⟩], none⟩) (v := ?_) rfl (Or.inl ⟨by rfl, ?_⟩) ?_
  rotate_left
  ·intro w hSw
   (try dsimp only at hSw)
   first | (go_simp; done) | (go_simp; with_reducible rfl)
  (try simp only [Act.put, List.setIfInBounds_toArray, List.set_cons_zero, List.set_cons_succ])
  refine lk34 (i := 5) (oi := ⟨some 40, .move (.tmp 2), 66, "sort.go:167", #[⟨4, .guard⟩], some (4, true)⟩) (v := undef) rfl (Or.inr ⟨by rfl, rfl⟩) ?_
  (try simp only [Act.put, List.setIfInBounds_toArray, List.set_cons_zero, List.set_cons_succ])
  refine lk34 (i := 6) (oi := ⟨some 41, .move (.tmp 0), 25, "sort.go:167", #[⟨4, .guard⟩], some (4, true)⟩) (v := undef) rfl (Or.inr ⟨by rfl, rfl⟩) ?_
  (try simp only [Act.put, List.setIfInBounds_toArray, List.set_cons_zero, List.set_cons_succ])
  refine lk34 (i := 7) (oi := ⟨some 42, .move (.tmp 9), 3, "sort.go:167", #[⟨4, .guard⟩], some (4, true)⟩) (v := undef) rfl (Or.inr ⟨by rfl, rfl⟩) ?_
  (try simp only [Act.put, List.setIfInBounds_toArray, List.set_cons_zero, List.set_cons_succ])
  refine lk34 (i := 8) (oi := ⟨some 43, .indexAddr 25 (.tmp 41) (.tmp 42), 0, "sort.go:167", #[⟨6, .data⟩, ⟨7, .data⟩, ⟨4, .guard⟩], some (4, true)⟩) (v := undef) rfl (Or.inr ⟨by rfl, rfl⟩) ?_
  (try simp only [Act.put, List.setIfInBounds_toArray, List.set_cons_zero, List.set_cons_succ])
  refine lk34 (i := 9) (oi := ⟨some 44, .load 63 (.tmp 43), 63, "sort.go:167", #[⟨8, .data⟩, ⟨4, .guard⟩], some (4, true)⟩) (v := undef) rfl (Or.inr ⟨by rfl, rfl⟩) ?_
  (try simp only [Act.put, List.setIfInBounds_toArray, List.set_cons_zero, List.set_cons_succ])
  refine lk34 (i := 10) (oi := ⟨some 45, .load 63 (.tmp 4), 63, "sort.go:167", #[⟨4, .guard⟩], some (4, true)⟩) (v := undef) rfl (Or.inr ⟨by rfl, rfl⟩) ?_
  (try simp only [Act.put, List.setIfInBounds_toArray, List.set_cons_zero, List.set_cons_succ])
  refine lk34 (i := 11) (oi := ⟨some 46, .call ⟨.value (.tmp 40), #[.tmp 44, .tmp 45], #[63, 63]⟩, 3, "sort.go:167", #[⟨5, .data⟩, ⟨9, .data⟩, ⟨10, .data⟩, ⟨4, .chain⟩, ⟨4, .guard⟩], some (4, true)⟩) (v := undef) rfl (Or.inr ⟨by rfl, rfl⟩) ?_
  (try simp only [Act.put, List.setIfInBounds_toArray, List.set_cons_zero, List.set_cons_succ])
  refine lk34 (i := 12) (oi := ⟨some 47, .binOp .eql 3 (.tmp 46) (.const (Value.int IntKind.i64 0)) 3, 4, "sort.go:167", #[⟨11, .data⟩, ⟨4, .guard⟩, { on := 14, ground := Ground.gcOnly Departure.lateStores }], some (4, true)⟩) (v := undef) rfl (Or.inr ⟨by rfl, rfl⟩) ?_
  (try simp only [Act.put, List.setIfInBounds_toArray, List.set_cons_zero, List.set_cons_succ])
  refine lk34 (i := 13) (oi := ⟨some 48, .pick (.tmp 39) (.tmp 47) (.const (Value.bool false)), 4, "sort.go:167", #[⟨4, .data⟩, ⟨12, .data⟩, { on := 14, ground := Ground.gcOnly Departure.lateStores }], none⟩) (v := ?_) rfl (Or.inl ⟨by rfl, ?_⟩) ?_
  rotate_left
  ·intro w hSw
   (try dsimp only at hSw)
   first | (go_simp; done) | (go_simp; with_reducible rfl)
  (try simp only [Act.put, List.setIfInBounds_toArray, List.set_cons_zero, List.set_cons_succ])
  refine lk34 (i := 14) (oi := ⟨some 6, .assign (.tmp 35), 3, "sort.go:167", #[⟨0, .data⟩, ⟨11, .chain⟩, ⟨0, .phase⟩, ⟨1, .textOnly .lateStores⟩, ⟨2, .textOnly .lateStores⟩, ⟨3, .textOnly .lateStores⟩, ⟨4, .textOnly .lateStores⟩, ⟨5, .textOnly .lateStores⟩, ⟨6, .textOnly .lateStores⟩, ⟨7, .textOnly .lateStores⟩, ⟨8, .textOnly .lateStores⟩, ⟨9, .textOnly .lateStores⟩, ⟨10, .textOnly .lateStores⟩, ⟨11, .textOnly .lateStoresUnsure⟩, ⟨12, .textOnly .lateStores⟩, ⟨13, .textOnly .lateStores⟩], none⟩) (v := ?_) rfl (Or.inl ⟨by rfl, ?_⟩) ?_
  rotate_left
  ·intro w hSw
   (try dsimp only at hSw)
   first | (go_simp; done) | (go_simp; with_reducible rfl)
  (try simp only [Act.put, List.setIfInBounds_toArray, List.set_cons_zero, List.set_cons_succ])
  refine lk34 (i := 15) (oi := ⟨some 7, .assign (.tmp 48), 4, "sort.go:167", #[⟨13, .data⟩, ⟨14, .chain⟩, ⟨0, .phase⟩, ⟨1, .phase⟩, ⟨2, .phase⟩, ⟨3, .phase⟩, ⟨4, .phase⟩, ⟨5, .phase⟩, ⟨6, .phase⟩, ⟨7, .phase⟩, ⟨8, .phase⟩, ⟨9, .phase⟩, ⟨10, .phase⟩, ⟨11, .phase⟩, ⟨12, .phase⟩, ⟨13, .phase⟩, ⟨14, .phase⟩], none⟩) (v := ?_) rfl (Or.inl ⟨by rfl, ?_⟩) ?_
  rotate_left
  ·intro w hSw
   (try dsimp only at hSw)
   first | (go_simp; done) | (go_simp; with_reducible rfl)
  (try simp only [Act.put, List.setIfInBounds_toArray, List.set_cons_zero, List.set_cons_succ])
  refine wpAnyH_done (by kernel_rfl) ?_ _
  have HB2 : Hid (Below w.heap.size w wr.drew) := (HB.out.trans (HBr.out.mono HB.out.size)).trans ⟨rfl, rfl, rfl, Nat.le_refl _, fun _ _ => rfl⟩
  go_wp2
  exact bodyPost_ret (v := .tuple #[.int .i64 (lo : Int), .bool false]) (by simp [results, Tryz.results81, go_sem]) rfl ⟨⟨lo, false, rfl, HFo.out⟩, HB2.out⟩
/-- What a look for a price answers. -/
def PriceIs (l : List PrV) (s : ByteArray) (o : PrV) (b : Bool) : Prop := (b = true ∧ ∃ i, i < l.length ∧ (atPr l i).item = s ∧ o = atPr l i) ∨ (b = false ∧ o = PrV.zero ∧ ∀ i, i < l.length → (atPr l i).item ≠ s)
theorem priceIs_one {l : List PrV} {s : ByteArray} {o o' : PrV} {b b' : Bool} (hi : IncP l) (h : PriceIs l s o b) (h' : PriceIs l s o' b') : o = o' ∧ b = b' := by
 rcases h with ⟨rfl, i, h1, h2, rfl⟩ | ⟨rfl, rfl, h1⟩
 ·rcases h' with ⟨rfl, j, g1, g2, rfl⟩ | ⟨rfl, rfl, g1⟩
  ·refine ⟨?_, rfl⟩
   rcases Nat.lt_trichotomy i j with q | q | q
   ·have := incP_lt hi j i q g1
    rw [h2, g2, ltS_irr] at this
    cases this
   ·rw [q]
   ·have := incP_lt hi i j q h1
    rw [h2, g2, ltS_irr] at this
    cases this
  ·exact absurd h2 (g1 i h1)
 ·rcases h' with ⟨rfl, j, g1, g2, rfl⟩ | ⟨rfl, rfl, g1⟩
  ·exact absurd g2 (h1 j g1)
  ·exact ⟨rfl, rfl⟩
set_option maxRecDepth 100000 in
set_option maxHeartbeats 10000000 in
theorem counterPr (w : World) (B : Nat) (a : Option Addr) (n c g : Nat) (l : List PrV) (x : PrV) (h : Prs w B a n l) (hB : B ≤ w.heap.size) (hn : n ≤ 1048576) (hinc : IncP l) (hg : w.cell? ⟨g, 0, none⟩ = some (.func (.func 56) #[] #[])) :
  Calls Tryz.prog 51 #[.agg #[.slice a n c, .func (.func 83) #[] #[.pointer (some ⟨g, 0, none⟩)]], .agg #[.string x.item, .int .i64 x.cents]] w fun e w' => (∃ (o : PrV) (b : Bool), e = .returned (.tuple #[.agg #[.string o.item, .int .i64 o.cents], .bool b]) ∧ PriceIs l x.item o b) ∧ Below w.heap.size w w' := by
 have hb0 : Below w.heap.size w (((w.alloc (.cells #[.slice a n c, .func (.func 83) #[] #[.pointer (some ⟨g, 0, none⟩)]] 68)).alloc (.cells #[.string x.item, .int .i64 x.cents] 63)).alloc (.cells #[.string ⟨#[]⟩, .int .i64 0] 63)) := (((Below.refl _ w).alloc (Nat.le_refl _) _).alloc (by show _ ≤ (w.heap.push _).size; simp) _).alloc (by show _ ≤ ((w.heap.push _).push _).size; simp; omega) _
 have HO := Lib.hid (h.below hb0 hB)
 have HB := Lib.hid hb0
 have HL := Lib.hid h.1
 have HInc := Lib.hid hinc
 have HG := Lib.hid ((hb0.cell (p := ⟨g, 0, none⟩) (block_lt_of_cell hg)).trans hg)
 have HA : Hid ((((w.alloc (.cells #[.slice a n c, .func (.func 83) #[] #[.pointer (some ⟨g, 0, none⟩)]] 68)).alloc (.cells #[.string x.item, .int .i64 x.cents] 63)).alloc (.cells #[.string ⟨#[]⟩, .int .i64 0] 63)).heap[w.heap.size]? = some (.cells #[.slice a n c, .func (.func 83) #[] #[.pointer (some ⟨g, 0, none⟩)]] 68 (0, 0))) := by
  show (((w.heap.push _).push _).push _)[_]? = _
  rw [Array.getElem?_push, if_neg (by simp; omega), Array.getElem?_push, if_neg (by simp), Array.getElem?_push, if_pos rfl]
 have HR : Hid ((((w.alloc (.cells #[.slice a n c, .func (.func 83) #[] #[.pointer (some ⟨g, 0, none⟩)]] 68)).alloc (.cells #[.string x.item, .int .i64 x.cents] 63)).alloc (.cells #[.string ⟨#[]⟩, .int .i64 0] 63)).heap[w.heap.size + 1 + 1]? = some (.cells #[.string ⟨#[]⟩, .int .i64 0] 63 (0, 0))) := by
  show (((w.heap.push _).push _).push _)[_]? = _
  rw [Array.getElem?_push, if_pos (by simp)]
 have hsz : (((w.alloc (.cells #[.slice a n c, .func (.func 83) #[] #[.pointer (some ⟨g, 0, none⟩)]] 68)).alloc (.cells #[.string x.item, .int .i64 x.cents] 63)).alloc (.cells #[.string ⟨#[]⟩, .int .i64 0] 63)).heap.size = w.heap.size + 3 := by show (((w.heap.push _).push _).push _).size = _; simp
 clear h hb0 hinc hg
 go_enter Tryz.func51, Tryz.ntmps51
 go_wp2_with fail
 generalize ((w.alloc (.cells #[.slice a n c, .func (.func 83) #[] #[.pointer (some ⟨g, 0, none⟩)]] 68)).alloc (.cells #[.string x.item, .int .i64 x.cents] 63)).alloc (.cells #[.string ⟨#[]⟩, .int .i64 0] 63) = w0 at HO HB HG HA HR hsz ⊢
 refine (binPr w0 B a n c g l x HO.out (by omega) hn HInc.out HG.out).mono ?_
 rintro e w1 ⟨⟨i, b, rfl, hf⟩, hb1⟩
 have HF := Lib.hid hf
 have HB1 := Lib.hid (HB.out.trans (hb1.mono HB.out.size))
 have HO1 := Lib.hid (HO.out.below hb1 (by omega))
 have hR1 := (hb1.block _ (by omega)).trans HR.out
 have HR1 := Lib.hid hR1
 obtain ⟨y0, y1⟩ := two ((hb1.block _ (by omega)).trans HA.out)
 obtain ⟨r0, r1⟩ := two hR1
 have f0 : w1.frozen? ⟨w.heap.size + 1 + 1, 0, none⟩ = false := frozen_of_row _ _ _ _ _ hR1
 have f1 : w1.frozen? ⟨w.heap.size + 1 + 1, 1, none⟩ = false := frozen_of_row _ _ _ _ _ hR1
 have hs1 := hb1.size
 clear hf hb1 hR1
 rcases b with _ | _
 ·have HP : Hid (PriceIs l x.item PrV.zero false) := .inr ⟨rfl, rfl, HF.out.2.2 rfl⟩
  have hba : Below w1.heap.size w1 (w1.alloc (.cells #[.string ⟨#[]⟩, .int .i64 0] 63)) := (Below.refl _ _).alloc (Nat.le_refl _) _
  have HB2 := Lib.hid (HB1.out.trans (hba.mono HB1.out.size))
  have hR2 := (hba.block _ (by omega)).trans HR1.out
  have HX2 := Lib.hid (heap_setCell_same _ _ 1 _ _ (.int .i64 0) (heap_setCell_same _ _ 0 _ _ (.string ⟨#[]⟩) hR2))
  have HB3 := Lib.hid ((HB2.out.setCell (p := ⟨w.heap.size + 1 + 1, 0, none⟩) (by show _ ≤ w.heap.size + 1 + 1; omega) (.string ⟨#[]⟩)).setCell (p := ⟨w.heap.size + 1 + 1, 1, none⟩) (by show _ ≤ w.heap.size + 1 + 1; omega) (.int .i64 0))
  clear r0 r1 f0 f1
  obtain ⟨r0, r1⟩ := two hR2
  have f0 : (w1.alloc (.cells #[.string ⟨#[]⟩, .int .i64 0] 63)).frozen? ⟨w.heap.size + 1 + 1, 0, none⟩ = false := frozen_of_row _ _ _ _ _ hR2
  have f1 : (w1.alloc (.cells #[.string ⟨#[]⟩, .int .i64 0] 63)).frozen? ⟨w.heap.size + 1 + 1, 1, none⟩ = false := frozen_of_row _ _ _ _ _ hR2
  clear hba hR2
  go_wp2
  generalize ((w1.alloc (.cells #[.string ⟨#[]⟩, .int .i64 0] 63)).setCell ⟨w.heap.size + 1 + 1, 0, none⟩ (.string ⟨#[]⟩)).setCell ⟨w.heap.size + 1 + 1, 1, none⟩ (.int .i64 0) = wf at HX2 HB3 ⊢
  clear r0 r1
  obtain ⟨r0, r1⟩ := two HX2.out
  exact bodyPost_ret (v := .tuple #[.agg #[.string ⟨#[]⟩, .int .i64 0], .bool false]) (by simp [results, Tryz.results51, go_sem, r0, r1]) rfl ⟨⟨PrV.zero, false, rfl, HP.out⟩, HB3.out⟩
 obtain ⟨hil, hie⟩ := HF.out.2.1 rfl
 have hin : i < n := by rw [← HL.out]; exact hil
 have hii : (i : Int) < (n : Int) := by omega
 have HP : Hid (PriceIs l x.item (atPr l i) true) := .inl ⟨rfl, i, hil, hie, rfl⟩
 obtain ⟨b, off, rfl, hb, ho⟩ := HO1.out.2 i hin
 have ho' : PrAt w1 b (off + i * 2) (atPr l i) := ho
 clear ho hie
 generalize atPr l i = y at ho' HP
 obtain ⟨d0, d1⟩ := ho'
 have HX2 := Lib.hid (heap_setCell_same _ _ 1 _ _ (.int .i64 y.cents) (heap_setCell_same _ _ 0 _ _ (.string y.item) HR1.out))
 have HB3 := Lib.hid ((HB1.out.setCell (p := ⟨w.heap.size + 1 + 1, 0, none⟩) (by show _ ≤ w.heap.size + 1 + 1; omega) (.string y.item)).setCell (p := ⟨w.heap.size + 1 + 1, 1, none⟩) (by show _ ≤ w.heap.size + 1 + 1; omega) (.int .i64 y.cents))
 go_wp2
 generalize (w1.setCell ⟨w.heap.size + 1 + 1, 0, none⟩ (.string y.item)).setCell ⟨w.heap.size + 1 + 1, 1, none⟩ (.int .i64 y.cents) = wf at HX2 HB3 ⊢
 clear r0 r1
 obtain ⟨r0, r1⟩ := two HX2.out
 exact bodyPost_ret (v := .tuple #[.agg #[.string y.item, .int .i64 y.cents], .bool true]) (by simp [results, Tryz.results51, go_sem, r0, r1]) rfl ⟨⟨y, true, rfl, HP.out⟩, HB3.out⟩
/-- What knownPrice answers. -/
def KnownP (l : List PrV) (s : ByteArray) (w : World) (e : Ending) (w' : World) : Prop :=
 (∃ (o : PrV) (b : Bool), e = .returned (.tuple #[.int .i64 o.cents, .bool b]) ∧ PriceIs l s o b) ∧ Below w.heap.size w w'
set_option maxRecDepth 100000 in
set_option maxHeartbeats 10000000 in
theorem knownPr (w : World) (B : Nat) (a : Option Addr) (n c : Nat) (l : List PrV) (s : ByteArray) (h : Prs w B a n l) (hB : B ≤ w.heap.size) (hn : n ≤ 1048576) (hinc : IncP l) :
  Calls Tryz.prog 29 #[.slice a n c, .string s] w (KnownP l s w) := by
 have H := Lib.hid h
 have HInc := Lib.hid hinc
 clear h hinc
 go_enter Tryz.func29, Tryz.ntmps29
 go_wp2_with fail
 refine (Prlist w a n c).mono ?_
 rintro e w1 ⟨⟨g, rfl, hc⟩, hb1⟩
 have H1 := Lib.hid (H.out.below hb1 hB)
 have HB1 := Lib.hid hb1
 have HC := Lib.hid hc
 have hs1 := hb1.size
 clear hb1 hc
 go_wp2_with fail
 refine (counterPr w1 B a n c g l ⟨s, 0⟩ H1.out (by omega) hn HInc.out HC.out).mono ?_
 rintro e w2 ⟨⟨o, b, rfl, hp⟩, hb2⟩
 have HP := Lib.hid hp
 have HB2 := Lib.hid (HB1.out.trans (hb2.mono HB1.out.size))
 obtain ⟨item, cents⟩ := o
 simp only
 have HB3 := Lib.hid (HB2.out.alloc HB2.out.size (.cells #[.string item, .int .i64 cents] 63))
 clear hb2 hp
 go_wp2
 exact bodyPost_ret (v := .tuple #[.int .i64 cents, .bool b]) (by simp [results, Tryz.results29, go_sem]) rfl ⟨⟨⟨item, cents⟩, b, rfl, HP.out⟩, HB3.out⟩
/-- What PriceOf answers. -/
def PriceP (l : List PrV) (s : ByteArray) (w : World) (e : Ending) (w' : World) : Prop :=
 ((PrsB l = true ∧ ∃ (o : PrV) (b : Bool), e = .returned (.tuple #[.int .i64 o.cents, .bool b]) ∧ PriceIs l s o b) ∨ (PrsB l = false ∧ e = .returned (.tuple #[.int .i64 0, .bool false]))) ∧ Below w.heap.size w w'
set_option maxRecDepth 100000 in
theorem implPriceOf (w : World) (B : Nat) (a : Option Addr) (n c : Nat) (l : List PrV) (s : ByteArray) (h : Prs w B a n l) (hB : B ≤ w.heap.size) (hn : n ≤ 1048576) :
  Calls Tryz.prog 11 #[.slice a n c, .string s] w (PriceP l s w) := by
 have H := Lib.hid h
 clear h
 go_enter Tryz.func11, Tryz.ntmps11
 go_wp2_with fail
 refine (implPricesOk w B a n c l H.out hB hn).mono ?_
 rintro e w1 ⟨rfl, hb1⟩
 have H1 := Lib.hid (H.out.below hb1 hB)
 have HB1 := Lib.hid hb1
 have hs1 := hb1.size
 clear hb1
 rcases hok : PrsB l with _ | _
 ·have HK := Lib.hid hok
  clear hok
  go_wp2
  exact bodyPost_ret (v := .tuple #[.int .i64 0, .bool false]) (by simp [results, Tryz.results11, go_sem]) rfl ⟨.inr ⟨HK.out, rfl⟩, HB1.out⟩
 have HK := Lib.hid hok
 clear hok
 go_wp2_with fail
 refine (knownPr w1 B a n c l s H1.out (by omega) hn (incP_of HK.out)).mono ?_
 rintro e w2 ⟨⟨o, b, rfl, hp⟩, hb2⟩
 have HP := Lib.hid hp
 have HB2 := Lib.hid (HB1.out.trans (hb2.mono HB1.out.size))
 clear hp hb2
 go_wp2
 exact bodyPost_ret (v := .tuple #[.int .i64 o.cents, .bool b]) (by simp [results, Tryz.results11, go_sem]) rfl ⟨.inl ⟨HK.out, o, b, rfl, HP.out⟩, HB2.out⟩
theorem str_eqP {s t : ByteArray} : (s.toList == t.toList) = decide (s = t) := by
 rw [Bool.eq_iff_iff, beq_iff_eq, decide_eq_true_eq]
 exact ⟨text_eqP, fun h => by rw [h]⟩
set_option maxRecDepth 100000 in
set_option maxHeartbeats 10000000 in
theorem specPriceOf (w : World) (B : Nat) (a : Option Addr) (n c : Nat) (l : List PrV) (s : ByteArray) (h : Prs w B a n l) (hB : B ≤ w.heap.size) (hn : n ≤ 1048576) (hm : ∀ i, i < n → (atPr l i).item.size ≤ 1048576) :
  Calls Tryz.prog 12 #[.slice a n c, .string s] w (PriceP l s w) := by
 have H := Lib.hid h
 have HL := Lib.hid h.1
 have HM := Lib.hid hm
 clear h hm
 go_enter Tryz.func12, Tryz.ntmps12
 go_wp2
 go_loopw [6] (fun i wr => ∃ k : Nat, k ≤ n ∧ i = .int .i64 (k : Int) ∧ Hid (0 < k → PrsB l = true) ∧ Hid (∀ i, i < k → (atPr l i).item ≠ s) ∧ Hid (Below w.heap.size w wr)) (fun i _ => n - (intOf i).toNat)
 case atStart => exact ⟨0, Nat.zero_le _, rfl, fun h => absurd h (by omega), fun i hi => absurd hi (by omega), Below.refl _ _⟩
 case round =>
  obtain ⟨k, hk, rfl, HO, HN, HBr⟩ := hrel
  have H1 := Lib.hid (H.out.below HBr.out hB)
  have hsr := HBr.out.size
  go_wp2_with fail
  refine (specPrsOk wr B a n c l H1.out hn HM.out).mono ?_
  rintro e w1 ⟨rfl, hb1⟩
  have HB1 := Lib.hid (HBr.out.trans (hb1.mono HBr.out.size))
  have H2 := Lib.hid (H1.out.below hb1 (by omega))
  clear hb1
  rcases hok : PrsB l with _ | _
  ·have HK := Lib.hid hok
   clear hok
   go_wp2
   exact bodyPost_ret (v := .tuple #[.int .i64 0, .bool false]) (by simp [results, Tryz.results12, go_sem]) rfl ⟨.inr ⟨HK.out, rfl⟩, HB1.out⟩
  have HK := Lib.hid hok
  clear hok
  by_cases hlt : k < n
  rotate_left
  ·have hki : ¬ (k : Int) < (n : Int) := by omega
   have HF : Hid (PriceIs l s PrV.zero false) := .inr ⟨rfl, rfl, fun i hi => HN.out i (by have := HL.out; omega)⟩
   go_wp2
   exact bodyPost_ret (v := .tuple #[.int .i64 0, .bool false]) (by simp [results, Tryz.results12, go_sem]) rfl ⟨.inl ⟨HK.out, PrV.zero, false, rfl, HF.out⟩, HB1.out⟩
  have hki : (k : Int) < (n : Int) := by omega
  obtain ⟨b, off, rfl, hb, ho⟩ := H2.out.2 k hlt
  have ho' : PrAt w1 b (off + k * 2) (atPr l k) := ho
  have HY : Hid ((atPr l k).item = s → PriceIs l s (atPr l k) true) := fun e => .inl ⟨rfl, k, by rw [HL.out]; exact hlt, e, rfl⟩
  have HNn : Hid ((atPr l k).item ≠ s → ∀ i, i < k + 1 → (atPr l i).item ≠ s) := fun e i hi => by
   rcases Nat.lt_or_ge i k with g | g
   ·exact HN.out i g
   ·obtain rfl : i = k := by omega
    exact e
  clear ho
  generalize atPr l k = y at ho' HY HNn
  obtain ⟨d0, d1⟩ := ho'
  by_cases he : y.item = s
  ·have heq : (y.item.toList == s.toList) = true := by rw [str_eqP]; exact decide_eq_true he
   have HP := Lib.hid (HY.out he)
   clear he
   go_wp2
   exact bodyPost_ret (v := .tuple #[.int .i64 y.cents, .bool true]) (by simp [results, Tryz.results12, go_sem]) rfl ⟨.inl ⟨HK.out, y, true, rfl, HP.out⟩, HB1.out⟩
  ·have heq : (y.item.toList == s.toList) = false := by rw [str_eqP]; exact decide_eq_false he
   have HN2 := Lib.hid (HNn.out he)
   have HO2 : Hid (0 < k + 1 → PrsB l = true) := fun _ => HK.out
   clear he
   go_wp2
   go_roundw
   case rel => exact ⟨k + 1, by omega, by go_num, HO2, HN2, HB1⟩
   case measure => simp [intOf]; omega
set_option linter.unusedVariables false
set_option linter.unusedSimpArgs false

def IncOf (l : List OfV) : Prop := ∀ i, i < l.length → Ofinc l i = true
theorem incOf_of {l : List OfV} (h : OfsB l = true) : IncOf l := fun i hi => by
 unfold OfsB sortB at h
 simp only [Bool.and_eq_true, List.all_eq_true, List.mem_range] at h
 exact h.2.1 i hi
theorem incOf_lt {l : List OfV} (h : IncOf l) : ∀ j i, i < j → j < l.length → ltS (atOf l i).item (atOf l j).item = true
 | 0, _, h1, _ => absurd h1 (by omega)
 | j + 1, i, h1, h2 => by
  have hs : ltS (atOf l j).item (atOf l (j + 1)).item = true := by
   have := h (j + 1) h2
   unfold Ofinc at this
   simpa using this
  rcases Nat.lt_or_ge i j with g | g
  ·exact ltS_trans (incOf_lt h j i g (by omega)) hs
  ·obtain rfl : i = j := by omega
   exact hs
def cmpOf (l : List OfV) (s : ByteArray) (j : Nat) : Int := cmpS (atOf l j).item s
theorem cmpOf_down {l : List OfV} {s : ByteArray} (h : IncOf l) {m : Nat} (hm : m < l.length) (hc : cmpOf l s m < 0) : ∀ j, j < m + 1 → cmpOf l s j < 0 := fun j hj => by
 rcases Nat.lt_or_ge j m with h1 | h1
 ·exact cmp_neg.2 (ltS_trans (incOf_lt h m j h1 hm) (cmp_neg.1 hc))
 ·obtain rfl : j = m := by omega
  exact hc
theorem cmpOf_up {l : List OfV} {s : ByteArray} (h : IncOf l) {m : Nat} (hc : 0 ≤ cmpOf l s m) : ∀ j, m ≤ j → j < l.length → 0 ≤ cmpOf l s j := fun j hj hl => by
 rcases Nat.lt_or_ge m j with h1 | h1
 ·refine Int.not_lt.1 fun hn => ?_
  have : cmpOf l s m < 0 := cmp_neg.2 (ltS_trans (incOf_lt h j m h1 hl) (cmp_neg.1 hn))
  omega
 ·obtain rfl : j = m := by omega
  exact hc
theorem noneOf_of {l : List OfV} {s : ByteArray} (h : IncOf l) {k : Nat} (h1 : ∀ j, j < k → cmpOf l s j < 0) (h2 : k < l.length → 0 ≤ cmpOf l s k ∧ cmpOf l s k ≠ 0) : ∀ j, j < l.length → (atOf l j).item ≠ s := fun j hj e => by
 have ez : cmpOf l s j = 0 := cmp_zero.2 e
 rcases Nat.lt_trichotomy j k with g | g | g
 ·have := h1 j g; omega
 ·subst g
  exact (h2 hj).2 ez
 ·have hlt := incOf_lt h j k g hj
  rw [e] at hlt
  have a1 := (h2 (by omega)).1
  have a2 : cmpOf l s k < 0 := cmp_neg.2 hlt
  omega
def FoundOf (l : List OfV) (s : ByteArray) (i : Nat) (b : Bool) : Prop := i ≤ l.length ∧ (b = true → i < l.length ∧ (atOf l i).item = s) ∧ (b = false → ∀ j, j < l.length → (atOf l j).item ≠ s)
theorem foundOf_end {l : List OfV} {s : ByteArray} (h : IncOf l) (h1 : ∀ j, j < l.length → cmpOf l s j < 0) : FoundOf l s l.length false :=
 ⟨Nat.le_refl _, fun h => (by cases h), fun _ => noneOf_of h h1 (fun h => absurd h (by omega))⟩
theorem foundOf_mid {l : List OfV} {s : ByteArray} (h : IncOf l) {k : Nat} (hk : k < l.length) (h1 : ∀ j, j < k → cmpOf l s j < 0) (h2 : 0 ≤ cmpOf l s k) : FoundOf l s k (decide (cmpOf l s k = 0)) :=
 ⟨by omega, fun e => ⟨hk, cmp_zero.1 (of_decide_eq_true e)⟩, fun e => noneOf_of h h1 fun _ => ⟨h2, of_decide_eq_false e⟩⟩
theorem threeO {w : World} {g : Nat} {T : TypeId} {a b c : Value} (h : w.heap[g]? = some (.cells #[a, b, c] T (0, 0))) : w.cell? ⟨g, 0, none⟩ = some a ∧ w.cell? ⟨g, 1, none⟩ = some b ∧ w.cell? ⟨g, 2, none⟩ = some c := ⟨(cell_of_row _ _ _ _ _ _ h).trans rfl, (cell_of_row _ _ _ _ _ _ h).trans rfl, (cell_of_row _ _ _ _ _ _ h).trans rfl⟩

set_option maxRecDepth 100000 in
set_option maxHeartbeats 20000000 in
theorem binOf (w : World) (B : Nat) (a : Option Addr) (n c g : Nat) (l : List OfV) (x : OfV) (h : Ofs w B a n l) (hB : B ≤ w.heap.size) (hn : n ≤ 1048576) (hinc : IncOf l) (hg : w.cell? ⟨g, 0, none⟩ = some (.func (.func 77) #[] #[])) :
  Calls Tryz.prog 101 #[.slice a n c, .agg #[.string x.item, .int .i64 x.buy, .int .i64 x.free], .func (.func 100) #[] #[.pointer (some ⟨g, 0, none⟩)]] w fun e w' => (∃ (i : Nat) (b : Bool), e = .returned (.tuple #[.int .i64 (i : Int), .bool b]) ∧ FoundOf l x.item i b) ∧ Below w.heap.size w w' := by
 have hb0 : Below w.heap.size w (w.alloc (.cells #[.string x.item, .int .i64 x.buy, .int .i64 x.free] 59)) := (Below.refl _ w).alloc (Nat.le_refl _) _
 have HO := Lib.hid (h.below hb0 hB)
 have HB := Lib.hid hb0
 have HX := Lib.hid (heap_alloc_new w (.cells #[.string x.item, .int .i64 x.buy, .int .i64 x.free] 59))
 have HL := Lib.hid h.1
 have HInc := Lib.hid hinc
 have hglt := block_lt_of_cell hg
 have HG := Lib.hid ((hb0.cell (p := ⟨g, 0, none⟩) hglt).trans hg)
 have hsz : w.heap.size < (w.alloc (.cells #[.string x.item, .int .i64 x.buy, .int .i64 x.free] 59)).heap.size := by show _ < (w.heap.push _).size; simp
 clear h hb0 hinc hg
 go_enter Tryz.func101, Tryz.ntmps101
 go_upto_region 1 with fail
 generalize w.alloc (.cells #[.string x.item, .int .i64 x.buy, .int .i64 x.free] 59) = w0 at HO HB HX HG hsz ⊢
 go_wp2
 go_loopw [9, 10] (fun s t wr => ∃ lo hi : Nat, lo ≤ hi ∧ hi ≤ n ∧ s = .int .i64 (lo : Int) ∧ t = .int .i64 (hi : Int) ∧ Hid ((∀ j, j < lo → cmpOf l x.item j < 0) ∧ ∀ j, hi ≤ j → j < n → 0 ≤ cmpOf l x.item j) ∧ Hid (Below w0.heap.size w0 wr)) (fun s t _ => (intOf t - intOf s).toNat)
 case atStart => exact ⟨0, n, by omega, by omega, rfl, rfl, ⟨fun j hj => absurd hj (by omega), fun j h1 h2 => absurd h1 (by omega)⟩, Below.refl _ _⟩
 case round =>
  obtain ⟨lo, hi, hlh, hhn, rfl, rfl, HR, HBr⟩ := hrel
  obtain ⟨e0, e1, e2⟩ := threeO ((HBr.out.block _ (by omega)).trans HX.out)
  have hgr := (HBr.out.cell (p := ⟨g, 0, none⟩) (by show g < w0.heap.size; omega)).trans HG.out
  by_cases hlt : lo < hi
  ·have hli : (lo : Int) < (hi : Int) := by omega
   obtain ⟨m, hm⟩ : ∃ m, m = (lo + hi) / 2 := ⟨_, rfl⟩
   have hmi : ((lo : Int) + (hi : Int)) / 2 = (m : Int) := by omega
   have hmn : m < n := by omega
   have hml : lo ≤ m ∧ m < hi := by omega
   obtain ⟨hml1, hml2⟩ := hml
   clear hm
   go_upto_region 5 with fail
   have hmn' : (m : Int) < (n : Int) := by omega
   obtain ⟨b, off, rfl, hb, ho⟩ := HO.out.2 m hmn
   have HOk : Hid (OfAt w0 b (off + m * 3) (atOf l m)) := ho
   clear ho
   have HC : Hid (cmpOf l x.item m = cmpS (atOf l m).item x.item) := rfl
   generalize atOf l m = y at HOk HC
   obtain ⟨d0, d1, d2⟩ := HOk.out.kept (HBr.out.block b (by omega))
   have hS : wr.drew.cell? ⟨b, off + m * 3, none⟩ = some (.string y.item) ∧ wr.drew.cell? ⟨b, off + m * 3 + 1, none⟩ = some (.int .i64 y.buy) ∧ wr.drew.cell? ⟨b, off + m * 3 + 2, none⟩ = some (.int .i64 y.free) ∧ wr.drew.cell? ⟨w.heap.size, 0, none⟩ = some (.string x.item) ∧ wr.drew.cell? ⟨w.heap.size, 1, none⟩ = some (.int .i64 x.buy) ∧ wr.drew.cell? ⟨w.heap.size, 2, none⟩ = some (.int .i64 x.free) ∧ wr.drew.cell? ⟨g, 0, none⟩ = some (.func (.func 77) #[] #[]) := ⟨d0, d1, d2, e0, e1, e2, hgr⟩
   go_wp2_with fail
   go_region_held3 (fun w' => w'.cell? ⟨b, off + m * 3, none⟩ = some (.string y.item) ∧ w'.cell? ⟨b, off + m * 3 + 1, none⟩ = some (.int .i64 y.buy) ∧ w'.cell? ⟨b, off + m * 3 + 2, none⟩ = some (.int .i64 y.free) ∧ w'.cell? ⟨w.heap.size, 0, none⟩ = some (.string x.item) ∧ w'.cell? ⟨w.heap.size, 1, none⟩ = some (.int .i64 x.buy) ∧ w'.cell? ⟨w.heap.size, 2, none⟩ = some (.int .i64 x.free) ∧ w'.cell? ⟨g, 0, none⟩ = some (.func (.func 77) #[] #[])) (first | with_reducible exact hS | with_reducible exact hS2)
    (first | (go_at_call 100; refine (Oford y x g _ hS.2.2.2.2.2.2).mono ?_; rintro e w2 ⟨rfl, hb2⟩; have ⟨q0, q1, q2, q3, q4, q5, q6⟩ := hS; have hS2 : w2.cell? ⟨b, off + m * 3, none⟩ = some (.string y.item) ∧ w2.cell? ⟨b, off + m * 3 + 1, none⟩ = some (.int .i64 y.buy) ∧ w2.cell? ⟨b, off + m * 3 + 2, none⟩ = some (.int .i64 y.free) ∧ w2.cell? ⟨w.heap.size, 0, none⟩ = some (.string x.item) ∧ w2.cell? ⟨w.heap.size, 1, none⟩ = some (.int .i64 x.buy) ∧ w2.cell? ⟨w.heap.size, 2, none⟩ = some (.int .i64 x.free) ∧ w2.cell? ⟨g, 0, none⟩ = some (.func (.func 77) #[] #[]) := ⟨(hb2.cell (block_lt_of_cell q0)).trans q0, (hb2.cell (block_lt_of_cell q1)).trans q1, (hb2.cell (block_lt_of_cell q2)).trans q2, (hb2.cell (block_lt_of_cell q3)).trans q3, (hb2.cell (block_lt_of_cell q4)).trans q4, (hb2.cell (block_lt_of_cell q5)).trans q5, (hb2.cell (block_lt_of_cell q6)).trans q6⟩; clear q0 q1 q2 q3 q4 q5 q6))
   have HB2 := Lib.hid (HBr.out.trans ((Below.mk hb2.os hb2.tape hb2.output hb2.size hb2.block : Below wr.heap.size wr w2).mono HBr.out.size))
   clear hS hS2 hb2 d0 d1 d2 e0 e1 e2 hgr
   have HDn := Lib.hid (fun hc => cmpOf_down (s := x.item) HInc.out (m := m) (by rw [HL.out]; exact hmn) hc)
   have HUp := Lib.hid (fun hc => cmpOf_up (s := x.item) HInc.out (m := m) hc)
   rw [← HC.out]
   generalize cmpOf l x.item m = cm at HDn HUp ⊢
   by_cases hc : cm < 0
   ·have HRn : Hid ((∀ j, j < m + 1 → cmpOf l x.item j < 0) ∧ ∀ j, hi ≤ j → j < n → 0 ≤ cmpOf l x.item j) := ⟨HDn.out hc, HR.out.2⟩
    go_wp2
    go_roundw
    case rel => exact ⟨m + 1, hi, by omega, by omega, by go_num, rfl, HRn, HB2⟩
    case measure => simp [intOf]; omega
   ·have HRn : Hid ((∀ j, j < lo → cmpOf l x.item j < 0) ∧ ∀ j, m ≤ j → j < n → 0 ≤ cmpOf l x.item j) := ⟨HR.out.1, fun j h1 h2 => HUp.out (by omega) j h1 (by rw [HL.out]; exact h2)⟩
    go_wp2
    go_roundw
    case rel => exact ⟨lo, m, by omega, by omega, rfl, by go_num, HRn, HB2⟩
    case measure => simp [intOf]; omega
  obtain rfl : lo = hi := by omega
  have hll : ¬ (lo : Int) < (lo : Int) := by omega
  clear hlt
  by_cases hend : lo < n
  ·have hei : (lo : Int) < (n : Int) := by omega
   have HFo := Lib.hid (foundOf_mid (s := x.item) HInc.out (k := lo) (by rw [HL.out]; exact hend) HR.out.1 (HR.out.2 lo (Nat.le_refl _) hend))
   obtain ⟨b, off, rfl, hb, ho⟩ := HO.out.2 lo hend
   have HOk : Hid (OfAt w0 b (off + lo * 3) (atOf l lo)) := ho
   clear ho
   have HC : Hid (cmpOf l x.item lo = cmpS (atOf l lo).item x.item) := rfl
   generalize atOf l lo = y at HOk HC
   obtain ⟨d0, d1, d2⟩ := HOk.out.kept (HBr.out.block b (by omega))
   have hS : wr.drew.cell? ⟨b, off + lo * 3, none⟩ = some (.string y.item) ∧ wr.drew.cell? ⟨b, off + lo * 3 + 1, none⟩ = some (.int .i64 y.buy) ∧ wr.drew.cell? ⟨b, off + lo * 3 + 2, none⟩ = some (.int .i64 y.free) ∧ wr.drew.cell? ⟨w.heap.size, 0, none⟩ = some (.string x.item) ∧ wr.drew.cell? ⟨w.heap.size, 1, none⟩ = some (.int .i64 x.buy) ∧ wr.drew.cell? ⟨w.heap.size, 2, none⟩ = some (.int .i64 x.free) ∧ wr.drew.cell? ⟨g, 0, none⟩ = some (.func (.func 77) #[] #[]) := ⟨d0, d1, d2, e0, e1, e2, hgr⟩
   go_wp2_with fail
   refine wp_region_held_drew (S := fun w' => w'.cell? ⟨b, off + lo * 3, none⟩ = some (.string y.item) ∧ w'.cell? ⟨b, off + lo * 3 + 1, none⟩ = some (.int .i64 y.buy) ∧ w'.cell? ⟨b, off + lo * 3 + 2, none⟩ = some (.int .i64 y.free) ∧ w'.cell? ⟨w.heap.size, 0, none⟩ = some (.string x.item) ∧ w'.cell? ⟨w.heap.size, 1, none⟩ = some (.int .i64 x.buy) ∧ w'.cell? ⟨w.heap.size, 2, none⟩ = some (.int .i64 x.free) ∧ w'.cell? ⟨g, 0, none⟩ = some (.func (.func 77) #[] #[])) (by kernel_rfl) hS (fun hHeld => ?_)
   clear hHeld
   refine lk34 (i := 0) (oi := ⟨some 35, .move (.tmp 9), 3, "sort.go:167", #[], none⟩) (v := ?_) rfl (Or.inl ⟨by rfl, ?_⟩) ?_
   rotate_left
   ·intro w hSw
    (try dsimp only at hSw)
    first | (go_simp; done) | (go_simp; with_reducible rfl)
   (try simp only [Act.put, List.setIfInBounds_toArray, List.set_cons_zero, List.set_cons_succ])
   refine lk34 (i := 1) (oi := ⟨some 36, .move (.tmp 9), 3, "sort.go:167", #[], none⟩) (v := ?_) rfl (Or.inl ⟨by rfl, ?_⟩) ?_
   rotate_left
   ·intro w hSw
    (try dsimp only at hSw)
    first | (go_simp; done) | (go_simp; with_reducible rfl)
   (try simp only [Act.put, List.setIfInBounds_toArray, List.set_cons_zero, List.set_cons_succ])
   refine lk34 (i := 2) (oi := ⟨some 37, .move (.tmp 8), 3, "sort.go:167", #[], none⟩) (v := ?_) rfl (Or.inl ⟨by rfl, ?_⟩) ?_
   rotate_left
   ·intro w hSw
    (try dsimp only at hSw)
    first | (go_simp; done) | (go_simp; with_reducible rfl)
   (try simp only [Act.put, List.setIfInBounds_toArray, List.set_cons_zero, List.set_cons_succ])
   refine lk34 (i := 3) (oi := ⟨some 38, .binOp .lss 3 (.tmp 36) (.tmp 37) 3, 4, "sort.go:167", #[⟨1, .data⟩, ⟨2, .data⟩], none⟩) (v := ?_) rfl (Or.inl ⟨by rfl, ?_⟩) ?_
   rotate_left
   ·intro w hSw
    (try dsimp only at hSw)
    first | (go_simp; done) | (go_simp; with_reducible rfl)
   (try simp only [Act.put, List.setIfInBounds_toArray, List.set_cons_zero, List.set_cons_succ])
   refine lk34 (i := 4) (oi := ⟨some 39, .move (.tmp 38), 4, "sort.go:167", #[⟨3, .data⟩], none⟩) (v := ?_) rfl (Or.inl ⟨by rfl, ?_⟩) ?_
   rotate_left
   ·intro w hSw
    (try dsimp only at hSw)
    first | (go_simp; done) | (go_simp; with_reducible rfl)
   (try simp only [Act.put, List.setIfInBounds_toArray, List.set_cons_zero, List.set_cons_succ])
   refine lk34 (i := 5) (oi := ⟨some 40, .move (.tmp 2), 92, "sort.go:167", #[⟨4, .guard⟩], some (4, true)⟩) (v := ?_) rfl (Or.inl ⟨by rfl, ?_⟩) ?_
   rotate_left
   ·intro w hSw
    (try dsimp only at hSw)
    first | (go_simp; done) | (go_simp; with_reducible rfl)
   (try simp only [Act.put, List.setIfInBounds_toArray, List.set_cons_zero, List.set_cons_succ])
   refine lk34 (i := 6) (oi := ⟨some 41, .move (.tmp 0), 26, "sort.go:167", #[⟨4, .guard⟩], some (4, true)⟩) (v := ?_) rfl (Or.inl ⟨by rfl, ?_⟩) ?_
   rotate_left
   ·intro w hSw
    (try dsimp only at hSw)
    first | (go_simp; done) | (go_simp; with_reducible rfl)
   (try simp only [Act.put, List.setIfInBounds_toArray, List.set_cons_zero, List.set_cons_succ])
   refine lk34 (i := 7) (oi := ⟨some 42, .move (.tmp 9), 3, "sort.go:167", #[⟨4, .guard⟩], some (4, true)⟩) (v := ?_) rfl (Or.inl ⟨by rfl, ?_⟩) ?_
   rotate_left
   ·intro w hSw
    (try dsimp only at hSw)
    first | (go_simp; done) | (go_simp; with_reducible rfl)
   (try simp only [Act.put, List.setIfInBounds_toArray, List.set_cons_zero, List.set_cons_succ])
   refine lk34 (i := 8) (oi := ⟨some 43, .indexAddr 26 (.tmp 41) (.tmp 42), 0, "sort.go:167", #[⟨6, .data⟩, ⟨7, .data⟩, ⟨4, .guard⟩], some (4, true)⟩) (v := ?_) rfl (Or.inl ⟨by rfl, ?_⟩) ?_
   rotate_left
   ·intro w hSw
    (try dsimp only at hSw)
    first | (go_simp; done) | (go_simp; with_reducible rfl)
   (try simp only [Act.put, List.setIfInBounds_toArray, List.set_cons_zero, List.set_cons_succ])
   refine lk34 (i := 9) (oi := ⟨some 44, .load 59 (.tmp 43), 59, "sort.go:167", #[⟨8, .data⟩, ⟨4, .guard⟩], some (4, true)⟩) (v := ?_) rfl (Or.inl ⟨by rfl, ?_⟩) ?_
   rotate_left
   ·intro w hSw
    (try dsimp only at hSw)
    first | (go_simp; done) | (go_simp; with_reducible rfl)
   (try simp only [Act.put, List.setIfInBounds_toArray, List.set_cons_zero, List.set_cons_succ])
   refine lk34 (i := 10) (oi := ⟨some 45, .load 59 (.tmp 4), 59, "sort.go:167", #[⟨4, .guard⟩], some (4, true)⟩) (v := ?_) rfl (Or.inl ⟨by rfl, ?_⟩) ?_
   rotate_left
   ·intro w hSw
    (try dsimp only at hSw)
    first | (go_simp; done) | (go_simp; with_reducible rfl)
   (try simp only [Act.put, List.setIfInBounds_toArray, List.set_cons_zero, List.set_cons_succ])
   refine rk 11 rfl (fun K hK => ?_)
   go_simp
   go_at_call 100
   refine (Oford y x g _ hS.2.2.2.2.2.2).mono ?_
   rintro e w2 ⟨rfl, hb2⟩
   rw [← HC.out]
   have ⟨q0, q1, q2, q3, q4, q5, q6⟩ := hS
   have hS2 : w2.cell? ⟨b, off + lo * 3, none⟩ = some (.string y.item) ∧ w2.cell? ⟨b, off + lo * 3 + 1, none⟩ = some (.int .i64 y.buy) ∧ w2.cell? ⟨b, off + lo * 3 + 2, none⟩ = some (.int .i64 y.free) ∧ w2.cell? ⟨w.heap.size, 0, none⟩ = some (.string x.item) ∧ w2.cell? ⟨w.heap.size, 1, none⟩ = some (.int .i64 x.buy) ∧ w2.cell? ⟨w.heap.size, 2, none⟩ = some (.int .i64 x.free) ∧ w2.cell? ⟨g, 0, none⟩ = some (.func (.func 77) #[] #[]) := ⟨(hb2.cell (block_lt_of_cell q0)).trans q0, (hb2.cell (block_lt_of_cell q1)).trans q1, (hb2.cell (block_lt_of_cell q2)).trans q2, (hb2.cell (block_lt_of_cell q3)).trans q3, (hb2.cell (block_lt_of_cell q4)).trans q4, (hb2.cell (block_lt_of_cell q5)).trans q5, (hb2.cell (block_lt_of_cell q6)).trans q6⟩
   clear q0 q1 q2 q3 q4 q5 q6
   refine hK.out _ _ hS2 (fun hHeld2 => ?_)
   clear hK K
   (try simp only [Act.put, List.setIfInBounds_toArray, List.set_cons_zero, List.set_cons_succ])
   refine lk34 (i := 12) (oi := ⟨some 47, .binOp .eql 3 (.tmp 46) (.const (Value.int IntKind.i64 0)) 3, 4, "sort.go:167", #[⟨11, .data⟩, ⟨4, .guard⟩, { on := 14, ground := Ground.gcOnly Departure.lateStores }], some (4, true)⟩) (v := ?_) rfl (Or.inl ⟨by rfl, ?_⟩) ?_
   rotate_left
   ·intro w hSw
    (try dsimp only at hSw)
    first | (go_simp; done) | (go_simp; with_reducible rfl)
   (try simp only [Act.put, List.setIfInBounds_toArray, List.set_cons_zero, List.set_cons_succ])
   refine lk34 (i := 13) (oi := ⟨some 48, .pick (.tmp 39) (.tmp 47) (.const (Value.bool false)), 4, "sort.go:167", #[⟨4, .data⟩, ⟨12, .data⟩, { on := 14, ground := Ground.gcOnly Departure.lateStores }], none⟩) (v := ?_) rfl (Or.inl ⟨by rfl, ?_⟩) ?_
   rotate_left
   ·intro w hSw
    (try dsimp only at hSw)
    first | (go_simp; done) | (go_simp; with_reducible rfl)
   (try simp only [Act.put, List.setIfInBounds_toArray, List.set_cons_zero, List.set_cons_succ])
   refine lk34 (i := 14) (oi := ⟨some 6, .assign (.tmp 35), 3, "sort.go:167", #[⟨0, .data⟩, ⟨11, .chain⟩, ⟨0, .phase⟩, ⟨1, .textOnly .lateStores⟩, ⟨2, .textOnly .lateStores⟩, ⟨3, .textOnly .lateStores⟩, ⟨4, .textOnly .lateStores⟩, ⟨5, .textOnly .lateStores⟩, ⟨6, .textOnly .lateStores⟩, ⟨7, .textOnly .lateStores⟩, ⟨8, .textOnly .lateStores⟩, ⟨9, .textOnly .lateStores⟩, ⟨10, .textOnly .lateStores⟩, ⟨11, .textOnly .lateStoresUnsure⟩, ⟨12, .textOnly .lateStores⟩, ⟨13, .textOnly .lateStores⟩], none⟩) (v := ?_) rfl (Or.inl ⟨by rfl, ?_⟩) ?_
   rotate_left
   ·intro w hSw
    (try dsimp only at hSw)
    first | (go_simp; done) | (go_simp; with_reducible rfl)
   (try simp only [Act.put, List.setIfInBounds_toArray, List.set_cons_zero, List.set_cons_succ])
   refine lk34 (i := 15) (oi := ⟨some 7, .assign (.tmp 48), 4, "sort.go:167", #[⟨13, .data⟩, ⟨14, .chain⟩, ⟨0, .phase⟩, ⟨1, .phase⟩, ⟨2, .phase⟩, ⟨3, .phase⟩, ⟨4, .phase⟩, ⟨5, .phase⟩, ⟨6, .phase⟩, ⟨7, .phase⟩, ⟨8, .phase⟩, ⟨9, .phase⟩, ⟨10, .phase⟩, ⟨11, .phase⟩, ⟨12, .phase⟩, ⟨13, .phase⟩, ⟨14, .phase⟩], none⟩) (v := ?_) rfl (Or.inl ⟨by rfl, ?_⟩) ?_
   rotate_left
   ·intro w hSw
    (try dsimp only at hSw)
    first | (go_simp; done) | (go_simp; with_reducible rfl)
   (try simp only [Act.put, List.setIfInBounds_toArray, List.set_cons_zero, List.set_cons_succ])
   refine wpAnyH_done (by kernel_rfl) ?_ _
   have HB2 := Lib.hid (HB.out.trans ((HBr.out.trans ((Below.mk hb2.os hb2.tape hb2.output hb2.size hb2.block : Below wr.heap.size wr w2).mono HBr.out.size)).mono HB.out.size))
   clear hS hS2 hb2
   go_wp2
   exact bodyPost_ret (v := .tuple #[.int .i64 (lo : Int), .bool (decide (cmpOf l x.item lo = 0))]) (by simp [results, Tryz.results101, go_sem]; rfl) rfl ⟨⟨lo, _, rfl, HFo.out⟩, HB2.out⟩
  have hei : ¬ (lo : Int) < (n : Int) := by omega
  obtain rfl : lo = n := by omega
  have HFo := Lib.hid (foundOf_end (s := x.item) HInc.out (fun j hj => HR.out.1 j (by have := HL.out; omega)))
  rw [HL.out] at HFo
  clear hend
  have hT : True := trivial
  go_wp2_with fail
  refine wp_region_held_drew (S := fun w' => True) (by kernel_rfl) hT (fun hHeld => ?_)
  clear hHeld
  refine lk34 (i := 0) (oi := ⟨some 35, .move (.tmp 9), 3, "sort.go:167", #[], none⟩) (v := ?_) rfl (Or.inl ⟨by rfl, ?_⟩) ?_
  rotate_left
  ·intro w hSw
   (try dsimp only at hSw)
   first | (go_simp; done) | (go_simp; with_reducible rfl)
  (try simp only [Act.put, List.setIfInBounds_toArray, List.set_cons_zero, List.set_cons_succ])
  refine lk34 (i := 1) (oi := ⟨some 36, .move (.tmp 9), 3, "sort.go:167", #[], none⟩) (v := ?_) rfl (Or.inl ⟨by rfl, ?_⟩) ?_
  rotate_left
  ·intro w hSw
   (try dsimp only at hSw)
   first | (go_simp; done) | (go_simp; with_reducible rfl)
  (try simp only [Act.put, List.setIfInBounds_toArray, List.set_cons_zero, List.set_cons_succ])
  refine lk34 (i := 2) (oi := ⟨some 37, .move (.tmp 8), 3, "sort.go:167", #[], none⟩) (v := ?_) rfl (Or.inl ⟨by rfl, ?_⟩) ?_
  rotate_left
  ·intro w hSw
   (try dsimp only at hSw)
   first | (go_simp; done) | (go_simp; with_reducible rfl)
  (try simp only [Act.put, List.setIfInBounds_toArray, List.set_cons_zero, List.set_cons_succ])
  refine lk34 (i := 3) (oi := ⟨some 38, .binOp .lss 3 (.tmp 36) (.tmp 37) 3, 4, "sort.go:167", #[⟨1, .data⟩, ⟨2, .data⟩], none⟩) (v := ?_) rfl (Or.inl ⟨by rfl, ?_⟩) ?_
  rotate_left
  ·intro w hSw
   (try dsimp only at hSw)
   first | (go_simp; done) | (go_simp; with_reducible rfl)
  (try simp only [Act.put, List.setIfInBounds_toArray, List.set_cons_zero, List.set_cons_succ])
  refine lk34 (i := 4) (oi := ⟨some 39, .move (.tmp 38), 4, "sort.go:167", #[⟨3, .data⟩], none⟩) (v := ?_) rfl (Or.inl ⟨by rfl, ?_⟩) ?_
  rotate_left
  ·intro w hSw
   (try dsimp only at hSw)
   first | (go_simp; done) | (go_simp; with_reducible rfl)
  (try simp only [Act.put, List.setIfInBounds_toArray, List.set_cons_zero, List.set_cons_succ])
  refine lk34 (i := 5) (oi := ⟨some 40, .move (.tmp 2), 92, "sort.go:167", #[⟨4, .guard⟩], some (4, true)⟩) (v := undef) rfl (Or.inr ⟨by rfl, rfl⟩) ?_
  (try simp only [Act.put, List.setIfInBounds_toArray, List.set_cons_zero, List.set_cons_succ])
  refine lk34 (i := 6) (oi := ⟨some 41, .move (.tmp 0), 26, "sort.go:167", #[⟨4, .guard⟩], some (4, true)⟩) (v := undef) rfl (Or.inr ⟨by rfl, rfl⟩) ?_
  (try simp only [Act.put, List.setIfInBounds_toArray, List.set_cons_zero, List.set_cons_succ])
  refine lk34 (i := 7) (oi := ⟨some 42, .move (.tmp 9), 3, "sort.go:167", #[⟨4, .guard⟩], some (4, true)⟩) (v := undef) rfl (Or.inr ⟨by rfl, rfl⟩) ?_
  (try simp only [Act.put, List.setIfInBounds_toArray, List.set_cons_zero, List.set_cons_succ])
  refine lk34 (i := 8) (oi := ⟨some 43, .indexAddr 26 (.tmp 41) (.tmp 42), 0, "sort.go:167", #[⟨6, .data⟩, ⟨7, .data⟩, ⟨4, .guard⟩], some (4, true)⟩) (v := undef) rfl (Or.inr ⟨by rfl, rfl⟩) ?_
  (try simp only [Act.put, List.setIfInBounds_toArray, List.set_cons_zero, List.set_cons_succ])
  refine lk34 (i := 9) (oi := ⟨some 44, .load 59 (.tmp 43), 59, "sort.go:167", #[⟨8, .data⟩, ⟨4, .guard⟩], some (4, true)⟩) (v := undef) rfl (Or.inr ⟨by rfl, rfl⟩) ?_
  (try simp only [Act.put, List.setIfInBounds_toArray, List.set_cons_zero, List.set_cons_succ])
  refine lk34 (i := 10) (oi := ⟨some 45, .load 59 (.tmp 4), 59, "sort.go:167", #[⟨4, .guard⟩], some (4, true)⟩) (v := undef) rfl (Or.inr ⟨by rfl, rfl⟩) ?_
  (try simp only [Act.put, List.setIfInBounds_toArray, List.set_cons_zero, List.set_cons_succ])
  refine lk34 (i := 11) (oi := ⟨some 46, .call ⟨.value (.tmp 40), #[.tmp 44, .tmp 45], #[59, 59]⟩, 3, "sort.go:167", #[⟨5, .data⟩, ⟨9, .data⟩, ⟨10, .data⟩, ⟨4, .chain⟩, ⟨4, .guard⟩], some (4, true)⟩) (v := undef) rfl (Or.inr ⟨by rfl, rfl⟩) ?_
  (try simp only [Act.put, List.setIfInBounds_toArray, List.set_cons_zero, List.set_cons_succ])
  refine lk34 (i := 12) (oi := ⟨some 47, .binOp .eql 3 (.tmp 46) (.const (Value.int IntKind.i64 0)) 3, 4, "sort.go:167", #[⟨11, .data⟩, ⟨4, .guard⟩, { on := 14, ground := Ground.gcOnly Departure.lateStores }], some (4, true)⟩) (v := undef) rfl (Or.inr ⟨by rfl, rfl⟩) ?_
  (try simp only [Act.put, List.setIfInBounds_toArray, List.set_cons_zero, List.set_cons_succ])
  refine lk34 (i := 13) (oi := ⟨some 48, .pick (.tmp 39) (.tmp 47) (.const (Value.bool false)), 4, "sort.go:167", #[⟨4, .data⟩, ⟨12, .data⟩, { on := 14, ground := Ground.gcOnly Departure.lateStores }], none⟩) (v := ?_) rfl (Or.inl ⟨by rfl, ?_⟩) ?_
  rotate_left
  ·intro w hSw
   (try dsimp only at hSw)
   first | (go_simp; done) | (go_simp; with_reducible rfl)
  (try simp only [Act.put, List.setIfInBounds_toArray, List.set_cons_zero, List.set_cons_succ])
  refine lk34 (i := 14) (oi := ⟨some 6, .assign (.tmp 35), 3, "sort.go:167", #[⟨0, .data⟩, ⟨11, .chain⟩, ⟨0, .phase⟩, ⟨1, .textOnly .lateStores⟩, ⟨2, .textOnly .lateStores⟩, ⟨3, .textOnly .lateStores⟩, ⟨4, .textOnly .lateStores⟩, ⟨5, .textOnly .lateStores⟩, ⟨6, .textOnly .lateStores⟩, ⟨7, .textOnly .lateStores⟩, ⟨8, .textOnly .lateStores⟩, ⟨9, .textOnly .lateStores⟩, ⟨10, .textOnly .lateStores⟩, ⟨11, .textOnly .lateStoresUnsure⟩, ⟨12, .textOnly .lateStores⟩, ⟨13, .textOnly .lateStores⟩], none⟩) (v := ?_) rfl (Or.inl ⟨by rfl, ?_⟩) ?_
  rotate_left
  ·intro w hSw
   (try dsimp only at hSw)
   first | (go_simp; done) | (go_simp; with_reducible rfl)
  (try simp only [Act.put, List.setIfInBounds_toArray, List.set_cons_zero, List.set_cons_succ])
  refine lk34 (i := 15) (oi := ⟨some 7, .assign (.tmp 48), 4, "sort.go:167", #[⟨13, .data⟩, ⟨14, .chain⟩, ⟨0, .phase⟩, ⟨1, .phase⟩, ⟨2, .phase⟩, ⟨3, .phase⟩, ⟨4, .phase⟩, ⟨5, .phase⟩, ⟨6, .phase⟩, ⟨7, .phase⟩, ⟨8, .phase⟩, ⟨9, .phase⟩, ⟨10, .phase⟩, ⟨11, .phase⟩, ⟨12, .phase⟩, ⟨13, .phase⟩, ⟨14, .phase⟩], none⟩) (v := ?_) rfl (Or.inl ⟨by rfl, ?_⟩) ?_
  rotate_left
  ·intro w hSw
   (try dsimp only at hSw)
   first | (go_simp; done) | (go_simp; with_reducible rfl)
  (try simp only [Act.put, List.setIfInBounds_toArray, List.set_cons_zero, List.set_cons_succ])
  refine wpAnyH_done (by kernel_rfl) ?_ _
  have HB2 : Hid (Below w.heap.size w wr.drew) := (HB.out.trans (HBr.out.mono HB.out.size)).trans ⟨rfl, rfl, rfl, Nat.le_refl _, fun _ _ => rfl⟩
  go_wp2
  exact bodyPost_ret (v := .tuple #[.int .i64 (lo : Int), .bool false]) (by simp [results, Tryz.results101, go_sem]) rfl ⟨⟨lo, false, rfl, HFo.out⟩, HB2.out⟩
/-- What a look for an offer answers. -/
def OfferIs (l : List OfV) (s : ByteArray) (o : OfV) (b : Bool) : Prop := (b = true ∧ ∃ i, i < l.length ∧ (atOf l i).item = s ∧ o = atOf l i) ∨ (b = false ∧ o = OfV.zero ∧ ∀ i, i < l.length → (atOf l i).item ≠ s)
theorem offerIs_one {l : List OfV} {s : ByteArray} {o o' : OfV} {b b' : Bool} (hi : IncOf l) (h : OfferIs l s o b) (h' : OfferIs l s o' b') : o = o' ∧ b = b' := by
 rcases h with ⟨rfl, i, h1, h2, rfl⟩ | ⟨rfl, rfl, h1⟩
 ·rcases h' with ⟨rfl, j, g1, g2, rfl⟩ | ⟨rfl, rfl, g1⟩
  ·refine ⟨?_, rfl⟩
   rcases Nat.lt_trichotomy i j with q | q | q
   ·have := incOf_lt hi j i q g1
    rw [h2, g2, ltS_irr] at this
    cases this
   ·rw [q]
   ·have := incOf_lt hi i j q h1
    rw [h2, g2, ltS_irr] at this
    cases this
  ·exact absurd h2 (g1 i h1)
 ·rcases h' with ⟨rfl, j, g1, g2, rfl⟩ | ⟨rfl, rfl, g1⟩
  ·exact absurd g2 (h1 j g1)
  ·exact ⟨rfl, rfl⟩
set_option maxRecDepth 100000 in
set_option maxHeartbeats 10000000 in
theorem counterOf (w : World) (B : Nat) (a : Option Addr) (n c g : Nat) (l : List OfV) (x : OfV) (h : Ofs w B a n l) (hB : B ≤ w.heap.size) (hn : n ≤ 1048576) (hinc : IncOf l) (hg : w.cell? ⟨g, 0, none⟩ = some (.func (.func 77) #[] #[])) :
  Calls Tryz.prog 79 #[.agg #[.slice a n c, .func (.func 100) #[] #[.pointer (some ⟨g, 0, none⟩)]], .agg #[.string x.item, .int .i64 x.buy, .int .i64 x.free]] w fun e w' => (∃ (o : OfV) (b : Bool), e = .returned (.tuple #[.agg #[.string o.item, .int .i64 o.buy, .int .i64 o.free], .bool b]) ∧ OfferIs l x.item o b) ∧ Below w.heap.size w w' := by
 have hb0 : Below w.heap.size w (((w.alloc (.cells #[.slice a n c, .func (.func 100) #[] #[.pointer (some ⟨g, 0, none⟩)]] 94)).alloc (.cells #[.string x.item, .int .i64 x.buy, .int .i64 x.free] 59)).alloc (.cells #[.string ⟨#[]⟩, .int .i64 0, .int .i64 0] 59)) := (((Below.refl _ w).alloc (Nat.le_refl _) _).alloc (by show _ ≤ (w.heap.push _).size; simp) _).alloc (by show _ ≤ ((w.heap.push _).push _).size; simp; omega) _
 have HO := Lib.hid (h.below hb0 hB)
 have HB := Lib.hid hb0
 have HL := Lib.hid h.1
 have HInc := Lib.hid hinc
 have HG := Lib.hid ((hb0.cell (p := ⟨g, 0, none⟩) (block_lt_of_cell hg)).trans hg)
 have HA : Hid ((((w.alloc (.cells #[.slice a n c, .func (.func 100) #[] #[.pointer (some ⟨g, 0, none⟩)]] 94)).alloc (.cells #[.string x.item, .int .i64 x.buy, .int .i64 x.free] 59)).alloc (.cells #[.string ⟨#[]⟩, .int .i64 0, .int .i64 0] 59)).heap[w.heap.size]? = some (.cells #[.slice a n c, .func (.func 100) #[] #[.pointer (some ⟨g, 0, none⟩)]] 94 (0, 0))) := by
  show (((w.heap.push _).push _).push _)[_]? = _
  rw [Array.getElem?_push, if_neg (by simp; omega), Array.getElem?_push, if_neg (by simp), Array.getElem?_push, if_pos rfl]
 have HR : Hid ((((w.alloc (.cells #[.slice a n c, .func (.func 100) #[] #[.pointer (some ⟨g, 0, none⟩)]] 94)).alloc (.cells #[.string x.item, .int .i64 x.buy, .int .i64 x.free] 59)).alloc (.cells #[.string ⟨#[]⟩, .int .i64 0, .int .i64 0] 59)).heap[w.heap.size + 1 + 1]? = some (.cells #[.string ⟨#[]⟩, .int .i64 0, .int .i64 0] 59 (0, 0))) := by
  show (((w.heap.push _).push _).push _)[_]? = _
  rw [Array.getElem?_push, if_pos (by simp)]
 have hsz : (((w.alloc (.cells #[.slice a n c, .func (.func 100) #[] #[.pointer (some ⟨g, 0, none⟩)]] 94)).alloc (.cells #[.string x.item, .int .i64 x.buy, .int .i64 x.free] 59)).alloc (.cells #[.string ⟨#[]⟩, .int .i64 0, .int .i64 0] 59)).heap.size = w.heap.size + 3 := by show (((w.heap.push _).push _).push _).size = _; simp
 clear h hb0 hinc hg
 go_enter Tryz.func79, Tryz.ntmps79
 go_wp2_with fail
 generalize ((w.alloc (.cells #[.slice a n c, .func (.func 100) #[] #[.pointer (some ⟨g, 0, none⟩)]] 94)).alloc (.cells #[.string x.item, .int .i64 x.buy, .int .i64 x.free] 59)).alloc (.cells #[.string ⟨#[]⟩, .int .i64 0, .int .i64 0] 59) = w0 at HO HB HG HA HR hsz ⊢
 refine (binOf w0 B a n c g l x HO.out (by omega) hn HInc.out HG.out).mono ?_
 rintro e w1 ⟨⟨i, b, rfl, hf⟩, hb1⟩
 have HF := Lib.hid hf
 have HB1 := Lib.hid (HB.out.trans (hb1.mono HB.out.size))
 have HO1 := Lib.hid (HO.out.below hb1 (by omega))
 have hR1 := (hb1.block _ (by omega)).trans HR.out
 have HR1 := Lib.hid hR1
 obtain ⟨y0, y1⟩ := two ((hb1.block _ (by omega)).trans HA.out)
 obtain ⟨r0, r1, r2⟩ := threeO hR1
 have f0 : w1.frozen? ⟨w.heap.size + 1 + 1, 0, none⟩ = false := frozen_of_row _ _ _ _ _ hR1
 have f1 : w1.frozen? ⟨w.heap.size + 1 + 1, 1, none⟩ = false := frozen_of_row _ _ _ _ _ hR1
 have f2 : w1.frozen? ⟨w.heap.size + 1 + 1, 2, none⟩ = false := frozen_of_row _ _ _ _ _ hR1
 have hs1 := hb1.size
 clear hf hb1 hR1
 rcases b with _ | _
 ·have HP : Hid (OfferIs l x.item OfV.zero false) := .inr ⟨rfl, rfl, HF.out.2.2 rfl⟩
  have hba : Below w1.heap.size w1 (w1.alloc (.cells #[.string ⟨#[]⟩, .int .i64 0, .int .i64 0] 59)) := (Below.refl _ _).alloc (Nat.le_refl _) _
  have HB2 := Lib.hid (HB1.out.trans (hba.mono HB1.out.size))
  have hR2 := (hba.block _ (by omega)).trans HR1.out
  have HX2 := Lib.hid (heap_setCell_same _ _ 2 _ _ (.int .i64 0) (heap_setCell_same _ _ 1 _ _ (.int .i64 0) (heap_setCell_same _ _ 0 _ _ (.string ⟨#[]⟩) hR2)))
  have HB3 := Lib.hid ((HB2.out.setCell (p := ⟨w.heap.size + 1 + 1, 0, none⟩) (by show _ ≤ w.heap.size + 1 + 1; omega) (.string ⟨#[]⟩)).setCell (p := ⟨w.heap.size + 1 + 1, 1, none⟩) (by show _ ≤ w.heap.size + 1 + 1; omega) (.int .i64 0) |>.setCell (p := ⟨w.heap.size + 1 + 1, 2, none⟩) (by show _ ≤ w.heap.size + 1 + 1; omega) (.int .i64 0))
  clear r0 r1 r2 f0 f1 f2
  obtain ⟨r0, r1, r2⟩ := threeO hR2
  have f0 : (w1.alloc (.cells #[.string ⟨#[]⟩, .int .i64 0, .int .i64 0] 59)).frozen? ⟨w.heap.size + 1 + 1, 0, none⟩ = false := frozen_of_row _ _ _ _ _ hR2
  have f1 : (w1.alloc (.cells #[.string ⟨#[]⟩, .int .i64 0, .int .i64 0] 59)).frozen? ⟨w.heap.size + 1 + 1, 1, none⟩ = false := frozen_of_row _ _ _ _ _ hR2
  have f2 : (w1.alloc (.cells #[.string ⟨#[]⟩, .int .i64 0, .int .i64 0] 59)).frozen? ⟨w.heap.size + 1 + 1, 2, none⟩ = false := frozen_of_row _ _ _ _ _ hR2
  clear hba hR2
  go_wp2
  generalize (((w1.alloc (.cells #[.string ⟨#[]⟩, .int .i64 0, .int .i64 0] 59)).setCell ⟨w.heap.size + 1 + 1, 0, none⟩ (.string ⟨#[]⟩)).setCell ⟨w.heap.size + 1 + 1, 1, none⟩ (.int .i64 0)).setCell ⟨w.heap.size + 1 + 1, 2, none⟩ (.int .i64 0) = wf at HX2 HB3 ⊢
  clear r0 r1 r2
  obtain ⟨r0, r1, r2⟩ := threeO HX2.out
  exact bodyPost_ret (v := .tuple #[.agg #[.string ⟨#[]⟩, .int .i64 0, .int .i64 0], .bool false]) (by simp [results, Tryz.results79, go_sem, r0, r1, r2]) rfl ⟨⟨OfV.zero, false, rfl, HP.out⟩, HB3.out⟩
 obtain ⟨hil, hie⟩ := HF.out.2.1 rfl
 have hin : i < n := by rw [← HL.out]; exact hil
 have hii : (i : Int) < (n : Int) := by omega
 have HP : Hid (OfferIs l x.item (atOf l i) true) := .inl ⟨rfl, i, hil, hie, rfl⟩
 obtain ⟨b, off, rfl, hb, ho⟩ := HO1.out.2 i hin
 have ho' : OfAt w1 b (off + i * 3) (atOf l i) := ho
 clear ho hie
 generalize atOf l i = y at ho' HP
 obtain ⟨d0, d1, d2⟩ := ho'
 have HX2 := Lib.hid (heap_setCell_same _ _ 2 _ _ (.int .i64 y.free) (heap_setCell_same _ _ 1 _ _ (.int .i64 y.buy) (heap_setCell_same _ _ 0 _ _ (.string y.item) HR1.out)))
 have HB3 := Lib.hid ((HB1.out.setCell (p := ⟨w.heap.size + 1 + 1, 0, none⟩) (by show _ ≤ w.heap.size + 1 + 1; omega) (.string y.item)).setCell (p := ⟨w.heap.size + 1 + 1, 1, none⟩) (by show _ ≤ w.heap.size + 1 + 1; omega) (.int .i64 y.buy) |>.setCell (p := ⟨w.heap.size + 1 + 1, 2, none⟩) (by show _ ≤ w.heap.size + 1 + 1; omega) (.int .i64 y.free))
 go_wp2
 generalize ((w1.setCell ⟨w.heap.size + 1 + 1, 0, none⟩ (.string y.item)).setCell ⟨w.heap.size + 1 + 1, 1, none⟩ (.int .i64 y.buy)).setCell ⟨w.heap.size + 1 + 1, 2, none⟩ (.int .i64 y.free) = wf at HX2 HB3 ⊢
 clear r0 r1 r2
 obtain ⟨r0, r1, r2⟩ := threeO HX2.out
 exact bodyPost_ret (v := .tuple #[.agg #[.string y.item, .int .i64 y.buy, .int .i64 y.free], .bool true]) (by simp [results, Tryz.results79, go_sem, r0, r1, r2]) rfl ⟨⟨y, true, rfl, HP.out⟩, HB3.out⟩
set_option linter.unusedVariables false
set_option linter.unusedSimpArgs false

def sort2 (n : Nat) (ok inc : Nat → Bool) : Bool := (List.range n).all ok && ((List.range n).all inc && decide (n ≤ 200))
theorem sort2_long {n : Nat} {ok inc : Nat → Bool} (h : ¬ n ≤ 200) : sort2 n ok inc = false := by unfold sort2; rw [decide_eq_false h]; simp
theorem sort2_inc {n : Nat} {ok inc : Nat → Bool} (h : (List.range n).all inc = false) : sort2 n ok inc = false := by unfold sort2; rw [h]; simp
theorem sort2_ok {n : Nat} {ok inc : Nat → Bool} (h : (List.range n).all ok = false) : sort2 n ok inc = false := by unfold sort2; rw [h]; simp
theorem sort2_rest {n : Nat} {ok inc : Nat → Bool} (h : (List.range n).all inc = true) (h2 : n ≤ 200) : sort2 n ok inc = (List.range n).all ok := by unfold sort2; rw [h, decide_eq_true h2]; simp
theorem sort2_len {n : Nat} {ok inc : Nat → Bool} (h1 : ∀ i, i < n → ok i = true) (h2 : ∀ i, i < n → inc i = true) : sort2 n ok inc = decide (n ≤ 200) := by unfold sort2; rw [all_range_yes h1, all_range_yes h2]; rfl
def LnV.ok (o : LnV) : Bool := itemB o.item && inB o.qty 1 999
def atLn (l : List LnV) (i : Nat) : LnV := l.getD i LnV.zero
def Lnok (l : List LnV) (i : Nat) : Bool := (atLn l i).ok
def Lninc (l : List LnV) (i : Nat) : Bool := decide (i = 0) || ltS (atLn l (i - 1)).item (atLn l i).item
def LnsB (l : List LnV) : Bool := sort2 l.length (Lnok l) (Lninc l)
theorem Lninc_first (l : List LnV) : ∀ i, i < 1 → Lninc l i = true := fun i hi => by obtain rfl : i = 0 := by omega
                                                                                     rfl
theorem bxLnok {w w1 : World} {cs : Array Value} {T : TypeId} (hb : Below (w.alloc (.cells cs T)).heap.size (w.alloc (.cells cs T)) w1) : w1.heap[w.heap.size]? = some (.cells cs T (0, 0)) := (hb.block _ (by show _ < (w.heap.push _).size; simp)).trans (by show (w.heap.push _)[_]? = _; simp)

theorem implLnok (o : LnV) (w : World) : Calls Tryz.prog 43 #[.agg #[.string o.item, .int .i64 o.qty, .bool o.saved]] w fun e w' => e = .returned (.bool o.ok) ∧ Below w.heap.size w w' := by
 have HD : Hid (o.ok = (itemB o.item && inB o.qty 1 999)) := rfl
 generalize o.ok = k at HD ⊢
 obtain ⟨item, qty, saved⟩ := o
 simp only at HD ⊢
 rcases hi : itemB item with _ | _
 ·have HI := Lib.hid hi
  clear hi
  go_enter Tryz.func43, Tryz.ntmps43
  go_wp2_with fail
  refine (implItem item _).mono ?_
  rintro e w1 ⟨rfl, rfl⟩
  rw [HI.out]
  go_wp2
  go_ret
  exact ⟨by rw [HD.out, HI.out]; rfl, ((Below.refl _ w).alloc (Nat.le_refl _) _)⟩
 ·have HI := Lib.hid hi
  clear hi
  go_enter Tryz.func43, Tryz.ntmps43
  go_wp2_with fail
  refine (implItem item _).mono ?_
  rintro e w1 ⟨rfl, rfl⟩
  rw [HI.out]
  go_wp2_with fail
  refine (inRange _ _ _ _).mono ?_
  rintro e w1 ⟨rfl, rfl⟩
  go_wp2
  go_ret
  exact ⟨by rw [HD.out, HI.out]; rfl, ((Below.refl _ w).alloc (Nat.le_refl _) _)⟩
set_option maxRecDepth 100000 in
theorem Lnitem (o : LnV) (w : World) : Calls Tryz.prog 72 #[.agg #[.string o.item, .int .i64 o.qty, .bool o.saved]] w fun e w' => e = .returned (.string o.item) ∧ Below w.heap.size w w' := by
 go_enter Tryz.func72, Tryz.ntmps72
 go_wp2
 go_ret
 exact ⟨rfl, ((Below.refl _ w).alloc (Nat.le_refl _) _)⟩
set_option maxRecDepth 100000 in
set_option maxHeartbeats 10000000 in
theorem Lnord (x y : LnV) (g : Nat) (w : World) (hg : w.cell? ⟨g, 0, none⟩ = some (.func (.func 72) #[] #[])) : Calls Tryz.prog 98 #[.agg #[.string x.item, .int .i64 x.qty, .bool x.saved], .agg #[.string y.item, .int .i64 y.qty, .bool y.saved], .pointer (some ⟨g, 0, none⟩)] w fun e w' => e = .returned (.int .i64 (cmpS x.item y.item)) ∧ Below w.heap.size w w' := by
 have hb0 : Below w.heap.size w ((w.alloc (.cells #[.string x.item, .int .i64 x.qty, .bool x.saved] 40)).alloc (.cells #[.string y.item, .int .i64 y.qty, .bool y.saved] 40)) := ((Below.refl _ w).alloc (Nat.le_refl _) _).alloc (by show _ ≤ (w.heap.push _).size; simp) _
 have HB := Lib.hid hb0
 have hglt := block_lt_of_cell hg
 have hg2 := (hb0.cell (p := ⟨g, 0, none⟩) hglt).trans hg
 have hx : ((w.alloc (.cells #[.string x.item, .int .i64 x.qty, .bool x.saved] 40)).alloc (.cells #[.string y.item, .int .i64 y.qty, .bool y.saved] 40)).heap[w.heap.size]? = some (.cells #[.string x.item, .int .i64 x.qty, .bool x.saved] 40 (0, 0)) := heap_alloc2_old _ _ _
 have hy : ((w.alloc (.cells #[.string x.item, .int .i64 x.qty, .bool x.saved] 40)).alloc (.cells #[.string y.item, .int .i64 y.qty, .bool y.saved] 40)).heap[w.heap.size + 1]? = some (.cells #[.string y.item, .int .i64 y.qty, .bool y.saved] 40 (0, 0)) := heap_alloc2_new _ _ _
 go_enter Tryz.func98, Tryz.ntmps98
 go_wp2_with fail
 generalize (w.alloc (.cells #[.string x.item, .int .i64 x.qty, .bool x.saved] 40)).alloc (.cells #[.string y.item, .int .i64 y.qty, .bool y.saved] 40) = w2 at HB hg2 hx hy ⊢
 have a0 := cell_of_row _ _ 0 _ _ _ hx
 have b0 := cell_of_row _ _ 0 _ _ _ hy
 have a1 := cell_of_row _ _ 1 _ _ _ hx
 have b1 := cell_of_row _ _ 1 _ _ _ hy
 have a2 := cell_of_row _ _ 2 _ _ _ hx
 have b2 := cell_of_row _ _ 2 _ _ _ hy
 simp only [List.getElem?_toArray, List.getElem?_cons_zero, List.getElem?_cons_succ] at a0 a1 a2 b0 b1 b2
 clear hx hy hb0 hg
 have hS : w2.drew.cell? ⟨g, 0, none⟩ = some (.func (.func 72) #[] #[]) ∧ w2.drew.cell? ⟨w.heap.size, 0, none⟩ = some (.string x.item) ∧ w2.drew.cell? ⟨w.heap.size, 1, none⟩ = some (.int .i64 x.qty) ∧ w2.drew.cell? ⟨w.heap.size, 2, none⟩ = some (.bool x.saved) ∧ w2.drew.cell? ⟨w.heap.size + 1, 0, none⟩ = some (.string y.item) ∧ w2.drew.cell? ⟨w.heap.size + 1, 1, none⟩ = some (.int .i64 y.qty) ∧ w2.drew.cell? ⟨w.heap.size + 1, 2, none⟩ = some (.bool y.saved) := ⟨hg2, a0, a1, a2, b0, b1, b2⟩
 go_wp2_with fail
 refine wp_region_held_drew (S := fun w' => w'.cell? ⟨g, 0, none⟩ = some (.func (.func 72) #[] #[]) ∧ w'.cell? ⟨w.heap.size, 0, none⟩ = some (.string x.item) ∧ w'.cell? ⟨w.heap.size, 1, none⟩ = some (.int .i64 x.qty) ∧ w'.cell? ⟨w.heap.size, 2, none⟩ = some (.bool x.saved) ∧ w'.cell? ⟨w.heap.size + 1, 0, none⟩ = some (.string y.item) ∧ w'.cell? ⟨w.heap.size + 1, 1, none⟩ = some (.int .i64 y.qty) ∧ w'.cell? ⟨w.heap.size + 1, 2, none⟩ = some (.bool y.saved)) (by kernel_rfl) hS (fun hHeld => ?_)
 refine lk34 (i := 0) (oi := ⟨some 6, .load 118 (.tmp 2), 118, "l12_prices.go:37", #[], none⟩) (v := ?_) rfl (Or.inl ⟨by rfl, ?_⟩) ?_
 rotate_left
 ·intro w hSw
  (try dsimp only at hSw)
  first | (go_simp; done) | (go_simp; with_reducible rfl)
 (try simp only [Act.put, List.setIfInBounds_toArray, List.set_cons_zero, List.set_cons_succ])
 refine lk34 (i := 1) (oi := ⟨some 7, .load 40 (.tmp 3), 40, "l12_prices.go:37", #[], none⟩) (v := ?_) rfl (Or.inl ⟨by rfl, ?_⟩) ?_
 rotate_left
 ·intro w hSw
  (try dsimp only at hSw)
  first | (go_simp; done) | (go_simp; with_reducible rfl)
 (try simp only [Act.put, List.setIfInBounds_toArray, List.set_cons_zero, List.set_cons_succ])
 refine lk34 (i := 3) (oi := ⟨some 9, .load 118 (.tmp 2), 118, "l12_prices.go:37", #[], none⟩) (v := ?_) rfl (Or.inl ⟨by rfl, ?_⟩) ?_
 rotate_left
 ·intro w hSw
  (try dsimp only at hSw)
  first | (go_simp; done) | (go_simp; with_reducible rfl)
 (try simp only [Act.put, List.setIfInBounds_toArray, List.set_cons_zero, List.set_cons_succ])
 refine lk34 (i := 4) (oi := ⟨some 10, .load 40 (.tmp 4), 40, "l12_prices.go:37", #[], none⟩) (v := ?_) rfl (Or.inl ⟨by rfl, ?_⟩) ?_
 rotate_left
 ·intro w hSw
  (try dsimp only at hSw)
  first | (go_simp; done) | (go_simp; with_reducible rfl)
 (try simp only [Act.put, List.setIfInBounds_toArray, List.set_cons_zero, List.set_cons_succ])
 refine rk 2 rfl (fun K hK => ?_)
 go_simp
 go_at_call 72
 refine (Lnitem x w2.drew).mono ?_
 rintro e w3 ⟨rfl, hb3⟩
 obtain ⟨q3_0, q3_1, q3_2, q3_3, q3_4, q3_5, q3_6⟩ := hS
 refine hK.out _ _ ⟨(hb3.cell (block_lt_of_cell q3_0)).trans q3_0, (hb3.cell (block_lt_of_cell q3_1)).trans q3_1, (hb3.cell (block_lt_of_cell q3_2)).trans q3_2, (hb3.cell (block_lt_of_cell q3_3)).trans q3_3, (hb3.cell (block_lt_of_cell q3_4)).trans q3_4, (hb3.cell (block_lt_of_cell q3_5)).trans q3_5, (hb3.cell (block_lt_of_cell q3_6)).trans q3_6⟩ (fun hHeld2 => ?_)
 clear hK K
 (try simp only [Act.put, List.setIfInBounds_toArray, List.set_cons_zero, List.set_cons_succ])
 refine rk 5 rfl (fun K hK => ?_)
 go_simp
 go_at_call 72
 refine (Lnitem y w3).mono ?_
 rintro e w4 ⟨rfl, hb4⟩
 obtain ⟨q4_0, q4_1, q4_2, q4_3, q4_4, q4_5, q4_6⟩ := hHeld2
 refine hK.out _ _ ⟨(hb4.cell (block_lt_of_cell q4_0)).trans q4_0, (hb4.cell (block_lt_of_cell q4_1)).trans q4_1, (hb4.cell (block_lt_of_cell q4_2)).trans q4_2, (hb4.cell (block_lt_of_cell q4_3)).trans q4_3, (hb4.cell (block_lt_of_cell q4_4)).trans q4_4, (hb4.cell (block_lt_of_cell q4_5)).trans q4_5, (hb4.cell (block_lt_of_cell q4_6)).trans q4_6⟩ (fun hHeld3 => ?_)
 clear hK K
 (try simp only [Act.put, List.setIfInBounds_toArray, List.set_cons_zero, List.set_cons_succ])
 refine rk 6 rfl (fun K hK => ?_)
 go_simp
 go_at_call 84
 refine (cmpStr x.item y.item w4).mono ?_
 rintro e w5 ⟨rfl, rfl⟩
 refine hK.out _ _ hHeld3 (fun hHeld4 => ?_)
 clear hK K
 (try simp only [Act.put, List.setIfInBounds_toArray, List.set_cons_zero, List.set_cons_succ])
 refine lk34 (i := 7) (oi := ⟨some 5, .assign (.tmp 12), 3, "l12_prices.go:37", #[⟨6, .data⟩, ⟨6, .chain⟩, ⟨0, .phase⟩, ⟨1, .phase⟩, ⟨2, .phase⟩, ⟨3, .phase⟩, ⟨4, .phase⟩, ⟨5, .phase⟩, ⟨6, .phase⟩], none⟩) (v := ?_) rfl (Or.inl ⟨by rfl, ?_⟩) ?_
 rotate_left
 ·intro w hSw
  (try dsimp only at hSw)
  first | (go_simp; done) | (go_simp; with_reducible rfl)
 (try simp only [Act.put, List.setIfInBounds_toArray, List.set_cons_zero, List.set_cons_succ])
 refine wpAnyH_done (by kernel_rfl) ?_ _
 have HB5 := Lib.hid (HB.out.trans (((Below.mk hb3.os hb3.tape hb3.output hb3.size hb3.block : Below w2.heap.size w2 w3).trans (hb4.mono hb3.size)).mono HB.out.size))
 go_wp2
 go_ret
 exact ⟨rfl, HB5.out⟩
set_option maxRecDepth 100000 in
set_option maxHeartbeats 10000000 in
theorem Lninc_walk (w : World) (B : Nat) (a : Option Addr) (n c g : Nat) (l : List LnV) (h : Lns w B a n l) (hB : B ≤ w.heap.size) (hn : n ≤ 1048576) (hg : w.cell? ⟨g, 0, none⟩ = some (.func (.func 72) #[] #[])) : Calls Tryz.prog 68 #[.agg #[.slice a n c, .func (.func 98) #[] #[.pointer (some ⟨g, 0, none⟩)]]] w fun e w' => e = .returned (.bool ((List.range n).all (Lninc l))) ∧ Below w.heap.size w w' := by
 have hb0 : Below w.heap.size w (w.alloc (.cells #[.slice a n c, .func (.func 98) #[] #[.pointer (some ⟨g, 0, none⟩)]] 88)) := (Below.refl _ w).alloc (Nat.le_refl _) _
 have HO := Lib.hid (h.below hb0 hB)
 have HB := Lib.hid hb0
 have HX := Lib.hid (bxLnok (Below.refl _ (w.alloc (.cells #[.slice a n c, .func (.func 98) #[] #[.pointer (some ⟨g, 0, none⟩)]] 88))))
 have HL := Lib.hid h.1
 have hglt := block_lt_of_cell hg
 have HG := Lib.hid ((hb0.cell (p := ⟨g, 0, none⟩) hglt).trans hg)
 have hsz : w.heap.size < (w.alloc (.cells #[.slice a n c, .func (.func 98) #[] #[.pointer (some ⟨g, 0, none⟩)]] 88)).heap.size := by show _ < (w.heap.push _).size; simp
 clear h hb0 hg
 go_enter Tryz.func68, Tryz.ntmps68
 go_wp2_with fail
 generalize w.alloc (.cells #[.slice a n c, .func (.func 98) #[] #[.pointer (some ⟨g, 0, none⟩)]] 88) = w0 at HO HB HX HG hsz ⊢
 go_loopw [3] (fun i wr => ∃ m : Nat, (m ≤ n ∨ m = 1) ∧ 1 ≤ m ∧ i = .int .i64 (m : Int) ∧ Hid (∀ i, i < m → Lninc l i = true) ∧ Hid (Below w0.heap.size w0 wr)) (fun i _ => n + 1 - (intOf i).toNat)
 case atStart => exact ⟨1, .inr rfl, Nat.le_refl _, rfl, Lninc_first l, Below.refl _ _⟩
 case round =>
  obtain ⟨m, hk, h1, rfl, HR, HBr⟩ := hrel
  have hxb := (HBr.out.block _ (by omega)).trans HX.out
  have c0 := cell_of_row _ _ 0 _ _ _ hxb
  have c1 := cell_of_row _ _ 1 _ _ _ hxb
  simp only [List.getElem?_toArray, List.getElem?_cons_zero, List.getElem?_cons_succ] at c0 c1
  clear hxb
  by_cases hlt : m < n
  rotate_left
  ·have HF := Lib.hid (all_range_yes (p := Lninc l) (n := n) (fun i hi => HR.out i (by omega)))
   have hge : ¬ ((m : Int) < (n : Int)) := by omega
   go_wp2
   go_ret
   exact ⟨by rw [HF.out]; rfl, HB.out.trans (HBr.out.mono HB.out.size)⟩
  obtain ⟨k, hkm⟩ : ∃ k, m = k + 1 := ⟨m - 1, by omega⟩
  obtain ⟨b, off, hao, hb, ho⟩ := HO.out.2 m hlt
  have HAo := Lib.hid hao
  subst hao
  obtain ⟨b', off', hao', hb', ho'⟩ := HO.out.2 k (by omega)
  have e := HAo.out.symm.trans hao'
  injection e with e
  injection e with e1 e2
  subst e1 e2
  clear hao' hb'
  have HOk : Hid (LnAt w0 b (off + m * 3) (atLn l m)) := ho
  have HOj : Hid (LnAt w0 b (off + k * 3) (atLn l k)) := ho'
  clear ho ho'
  have HIk : Hid (Lninc l m = ltS (atLn l k).item (atLn l m).item) := by subst hkm; rfl
  have HN := Lib.hid (fun h => all_range_no (p := Lninc l) (n := n) (i := m) hlt h)
  generalize atLn l m = x at HOk HIk
  generalize atLn l k = z at HOj HIk
  obtain ⟨d0, d1, d2⟩ := HOk.out.kept (HBr.out.block b (by omega))
  obtain ⟨e0, e1, e2⟩ := HOj.out.kept (HBr.out.block b (by omega))
  have hgr := (HBr.out.cell (p := ⟨g, 0, none⟩) (by show g < w0.heap.size; omega)).trans HG.out
  have im : IntKind.i64.wrap ((m : Int) - 1) = (k : Int) := (IntWalk.i64_in _ (by omega)).trans (by omega)
  have i1 : (k : Int) < (n : Int) := by omega
  have i2 : (m : Int) < (n : Int) := by omega
  clear hkm
  have hS : wr.drew.cell? ⟨b, off + m * 3, none⟩ = some (.string x.item) ∧ wr.drew.cell? ⟨b, off + m * 3 + 1, none⟩ = some (.int .i64 x.qty) ∧ wr.drew.cell? ⟨b, off + m * 3 + 2, none⟩ = some (.bool x.saved) ∧ wr.drew.cell? ⟨b, off + k * 3, none⟩ = some (.string z.item) ∧ wr.drew.cell? ⟨b, off + k * 3 + 1, none⟩ = some (.int .i64 z.qty) ∧ wr.drew.cell? ⟨b, off + k * 3 + 2, none⟩ = some (.bool z.saved) ∧ wr.drew.cell? ⟨w.heap.size, 0, none⟩ = some (.slice (some ⟨b, off, none⟩) n c) ∧ wr.drew.cell? ⟨w.heap.size, 1, none⟩ = some (.func (.func 98) #[] #[.pointer (some ⟨g, 0, none⟩)]) ∧ wr.drew.cell? ⟨g, 0, none⟩ = some (.func (.func 72) #[] #[]) := ⟨d0, d1, d2, e0, e1, e2, c0, c1, hgr⟩
  have hblt := block_lt_of_cell d0
  have hbx := block_lt_of_cell c0
  go_wp2_with fail
  go_region_held3 (fun w' => w'.cell? ⟨b, off + m * 3, none⟩ = some (.string x.item) ∧ w'.cell? ⟨b, off + m * 3 + 1, none⟩ = some (.int .i64 x.qty) ∧ w'.cell? ⟨b, off + m * 3 + 2, none⟩ = some (.bool x.saved) ∧ w'.cell? ⟨b, off + k * 3, none⟩ = some (.string z.item) ∧ w'.cell? ⟨b, off + k * 3 + 1, none⟩ = some (.int .i64 z.qty) ∧ w'.cell? ⟨b, off + k * 3 + 2, none⟩ = some (.bool z.saved) ∧ w'.cell? ⟨w.heap.size, 0, none⟩ = some (.slice (some ⟨b, off, none⟩) n c) ∧ w'.cell? ⟨w.heap.size, 1, none⟩ = some (.func (.func 98) #[] #[.pointer (some ⟨g, 0, none⟩)]) ∧ w'.cell? ⟨g, 0, none⟩ = some (.func (.func 72) #[] #[])) (first | with_reducible exact hS | with_reducible exact hS2)
   (first | (go_at_call 98; refine (Lnord z x g _ hS.2.2.2.2.2.2.2.2).mono ?_; rintro e w2 ⟨rfl, hb2⟩; have ⟨q0, q1, q2, q3, q4, q5, q6, q7, q8⟩ := hS; have hS2 : w2.cell? ⟨b, off + m * 3, none⟩ = some (.string x.item) ∧ w2.cell? ⟨b, off + m * 3 + 1, none⟩ = some (.int .i64 x.qty) ∧ w2.cell? ⟨b, off + m * 3 + 2, none⟩ = some (.bool x.saved) ∧ w2.cell? ⟨b, off + k * 3, none⟩ = some (.string z.item) ∧ w2.cell? ⟨b, off + k * 3 + 1, none⟩ = some (.int .i64 z.qty) ∧ w2.cell? ⟨b, off + k * 3 + 2, none⟩ = some (.bool z.saved) ∧ w2.cell? ⟨w.heap.size, 0, none⟩ = some (.slice (some ⟨b, off, none⟩) n c) ∧ w2.cell? ⟨w.heap.size, 1, none⟩ = some (.func (.func 98) #[] #[.pointer (some ⟨g, 0, none⟩)]) ∧ w2.cell? ⟨g, 0, none⟩ = some (.func (.func 72) #[] #[]) := ⟨(hb2.cell (block_lt_of_cell q0)).trans q0, (hb2.cell (block_lt_of_cell q1)).trans q1, (hb2.cell (block_lt_of_cell q2)).trans q2, (hb2.cell (block_lt_of_cell q3)).trans q3, (hb2.cell (block_lt_of_cell q4)).trans q4, (hb2.cell (block_lt_of_cell q5)).trans q5, (hb2.cell (block_lt_of_cell q6)).trans q6, (hb2.cell (block_lt_of_cell q7)).trans q7, (hb2.cell (block_lt_of_cell q8)).trans q8⟩; clear q0 q1 q2 q3 q4 q5 q6 q7 q8))
  clear hS hS2
  have HB2 := Lib.hid (HBr.out.trans ((Below.mk hb2.os hb2.tape hb2.output hb2.size hb2.block : Below wr.heap.size wr w2).mono HBr.out.size))
  clear hb2 d0 d1 d2 e0 e1 e2 c0 c1 hgr
  have HYn := Lib.hid (@cmp_yes z.item x.item)
  have HNn := Lib.hid (@cmp_no z.item x.item)
  generalize cmpS z.item x.item = cm at HYn HNn ⊢
  by_cases hm : 0 ≤ cm
  ·have HF := Lib.hid (HN.out (HIk.out.trans (HNn.out hm)))
   go_wp2
   go_ret
   exact ⟨by rw [HF.out]; rfl, HB.out.trans (HB2.out.mono HB.out.size)⟩
  have HF := Lib.hid (allp_stepS HR.out (HIk.out.trans (HYn.out (by omega))))
  go_wp2
  go_roundw
  case rel => exact ⟨m + 1, by omega, by omega, by go_num, HF, HB2⟩
  case measure => simp [intOf]; omega
set_option maxRecDepth 100000 in
theorem Lnnot (o : LnV) (g : Nat) (w : World) (hg : w.cell? ⟨g, 0, none⟩ = some (.func (.func 43) #[] #[])) : Calls Tryz.prog 70 #[.agg #[.string o.item, .int .i64 o.qty, .bool o.saved], .pointer (some ⟨g, 0, none⟩)] w fun e w' => e = .returned (.bool (!o.ok)) ∧ Below w.heap.size w w' := by
 have HK := Lib.hid (fun W => implLnok o W)
 generalize o.ok = ok at HK ⊢
 obtain ⟨item, qty, saved⟩ := o
 simp only at HK ⊢
 have hb0 : Below w.heap.size w (w.alloc (.cells #[.string item, .int .i64 qty, .bool saved] 40)) := (Below.refl _ w).alloc (Nat.le_refl _) _
 have HB := Lib.hid hb0
 have hg2 := (hb0.cell (p := ⟨g, 0, none⟩) (block_lt_of_cell hg)).trans hg
 clear hg hb0
 go_enter Tryz.func70, Tryz.ntmps70
 go_wp2_with fail
 refine (HK.out _).mono ?_
 rintro e w1 ⟨rfl, hb1⟩
 have HB1 := Lib.hid (HB.out.trans (hb1.mono HB.out.size))
 clear hb1
 go_wp2
 go_ret
 exact ⟨rfl, HB1.out⟩
set_option maxRecDepth 100000 in
set_option maxHeartbeats 5000000 in
theorem Lnindex (w : World) (B : Nat) (a : Option Addr) (n c g : Nat) (l : List LnV) (h : Lns w B a n l) (hB : B ≤ w.heap.size) (hn : n ≤ 1048576) (hg : w.cell? ⟨g, 0, none⟩ = some (.func (.func 43) #[] #[])) : Calls Tryz.prog 97 #[.slice a n c, .func (.func 70) #[] #[.pointer (some ⟨g, 0, none⟩)]] w fun e w' => (∃ z : Int, e = .returned (.int .i64 z) ∧ (decide (0 ≤ z)) = !((List.range n).all (Lnok l))) ∧ Below w.heap.size w w' := by
 have H := Lib.hid h
 have HG := Lib.hid hg
 have hglt := block_lt_of_cell hg
 clear h hg
 go_enter Tryz.func97, Tryz.ntmps97
 go_wp2
 go_loopw [5, 8] (fun _ i wr => ∃ k : Nat, k ≤ n ∧ i = .int .i64 k ∧ Hid (∀ i, i < k → Lnok l i = true) ∧ Hid (Below w.heap.size w wr)) (fun _ i _ => n - (intOf i).toNat)
 case atStart => exact ⟨0, Nat.zero_le _, rfl, fun i hi => by omega, Below.refl _ _⟩
 case round =>
  obtain ⟨k, hk, rfl, HR, HBr⟩ := hrel
  by_cases hlt : k < n
  ·obtain ⟨b, off, rfl, hb, ho⟩ := H.out.2 k hlt
   obtain ⟨c0, c1, c2⟩ := ho.kept (HBr.out.block b (by omega))
   clear ho
   have hgr := (HBr.out.cell (p := ⟨g, 0, none⟩) hglt).trans HG.out
   obtain ⟨x, hx⟩ : ∃ x, l.getD k LnV.zero = x := ⟨_, rfl⟩
   have HK : Hid (Lnok l k = x.ok) := by show (atLn l k).ok = _; unfold atLn; rw [hx]
   rw [hx] at c0 c1 c2
   clear hx
   have HN := Lib.hid (fun W h => Lnnot x g W h)
   obtain ⟨item, qty, saved⟩ := x
   simp only at c0 c1 c2 HN
   go_wp2_with fail
   refine (HN.out _ hgr).mono ?_
   rintro e w1 ⟨rfl, hb1⟩
   have HB1 := Lib.hid (HBr.out.trans (hb1.mono HBr.out.size))
   clear hb1 c0 c1 c2 hgr
   generalize hxo : LnV.ok { item := item, qty := qty, saved := saved } = ok at HK ⊢
   clear hxo HN
   rcases ok with _ | _
   ·have HF := Lib.hid (all_range_no (p := Lnok l) (n := n) hlt HK.out)
    go_wp2
    go_ret
    exact ⟨⟨(k : Int), rfl, by rw [HF.out, decide_eq_true (by omega)]; rfl⟩, HB1.out⟩
   ·have HS := Lib.hid (allp_stepS HR.out HK.out)
    go_wp2
    go_roundw
    case rel => exact ⟨k + 1, by omega, by go_num, HS, HB1⟩
    case measure => simp [intOf]; omega
  ·obtain rfl : k = n := by omega
   have HF := Lib.hid (all_range_yes (p := Lnok l) (n := k) HR.out)
   go_wp2
   go_ret
   exact ⟨⟨-1, rfl, by rw [HF.out]; rfl⟩, HBr.out⟩
theorem Lncontains (w : World) (B : Nat) (a : Option Addr) (n c g : Nat) (l : List LnV) (h : Lns w B a n l) (hB : B ≤ w.heap.size) (hn : n ≤ 1048576) (hg : w.cell? ⟨g, 0, none⟩ = some (.func (.func 43) #[] #[])) : Calls Tryz.prog 69 #[.slice a n c, .func (.func 70) #[] #[.pointer (some ⟨g, 0, none⟩)]] w fun e w' => e = .returned (.bool (!((List.range n).all (Lnok l)))) ∧ Below w.heap.size w w' := by
 go_enter Tryz.func69, Tryz.ntmps69
 go_wp2_with fail
 refine (Lnindex w B a n c g l h hB hn hg).mono ?_
 rintro e w1 ⟨⟨z, rfl, hz⟩, hb1⟩
 have HZ := Lib.hid hz
 have HB1 := Lib.hid hb1
 clear hb1 hz
 go_wp2
 go_ret
 exact ⟨by rw [← HZ.out]; rfl, HB1.out⟩
set_option maxRecDepth 100000 in
set_option maxHeartbeats 5000000 in
theorem LnsortedOk (w : World) (B : Nat) (a : Option Addr) (n c g : Nat) (l : List LnV) (h : Lns w B a n l) (hB : B ≤ w.heap.size) (hn : n ≤ 1048576) (hg : w.cell? ⟨g, 0, none⟩ = some (.func (.func 72) #[] #[])) : Calls Tryz.prog 41 #[.agg #[.slice a n c, .func (.func 98) #[] #[.pointer (some ⟨g, 0, none⟩)]], .int .i64 200, .func (.func 43) #[] #[]] w fun e w' => e = .returned (.bool (LnsB l)) ∧ Below w.heap.size w w' := by
 have hl : l.length = n := h.1
 have HD : Hid (LnsB l = sort2 n (Lnok l) (Lninc l)) := by show LnsB l = _; unfold LnsB; rw [hl]
 have hb0 : Below w.heap.size w ((w.alloc (.cells #[.slice a n c, .func (.func 98) #[] #[.pointer (some ⟨g, 0, none⟩)]] 88)).alloc (.cells #[.func (.func 43) #[] #[]] 90)) := ((Below.refl _ w).alloc (Nat.le_refl _) _).alloc (by show _ ≤ (w.heap.push _).size; simp) _
 have HO := Lib.hid (h.below hb0 hB)
 have HB := Lib.hid hb0
 have HG := Lib.hid ((hb0.cell (p := ⟨g, 0, none⟩) (block_lt_of_cell hg)).trans hg)
 have HX : Hid (((w.alloc (.cells #[.slice a n c, .func (.func 98) #[] #[.pointer (some ⟨g, 0, none⟩)]] 88)).alloc (.cells #[.func (.func 43) #[] #[]] 90)).heap[w.heap.size]? = some (.cells #[.slice a n c, .func (.func 98) #[] #[.pointer (some ⟨g, 0, none⟩)]] 88 (0, 0))) := heap_alloc2_old _ _ _
 have HY : Hid (((w.alloc (.cells #[.slice a n c, .func (.func 98) #[] #[.pointer (some ⟨g, 0, none⟩)]] 88)).alloc (.cells #[.func (.func 43) #[] #[]] 90)).heap[w.heap.size + 1]? = some (.cells #[.func (.func 43) #[] #[]] 90 (0, 0))) := heap_alloc2_new _ _ _
 have hsz : w.heap.size + 2 ≤ ((w.alloc (.cells #[.slice a n c, .func (.func 98) #[] #[.pointer (some ⟨g, 0, none⟩)]] 88)).alloc (.cells #[.func (.func 43) #[] #[]] 90)).heap.size := by show _ ≤ ((w.heap.push _).push _).size; simp
 clear h hb0 hg hl
 by_cases h50 : n ≤ 200
 rotate_left
 ·have HF := Lib.hid (sort2_long (ok := Lnok l) (inc := Lninc l) h50)
  have c0 := cell_of_row _ _ 0 _ _ _ HX.out
  simp only [List.getElem?_toArray, List.getElem?_cons_zero, List.getElem?_cons_succ] at c0
  have hgt : ((n : Int) > 200) := by omega
  go_enter Tryz.func41, Tryz.ntmps41
  go_wp2
  go_ret
  exact ⟨by rw [HD.out, HF.out]; rfl, HB.out⟩
 have c0 := cell_of_row _ _ 0 _ _ _ HX.out
 have c1 := cell_of_row _ _ 1 _ _ _ HX.out
 simp only [List.getElem?_toArray, List.getElem?_cons_zero, List.getElem?_cons_succ] at c0 c1
 go_enter Tryz.func41, Tryz.ntmps41
 go_wp2_with fail
 refine (Lninc_walk _ B a n c g l HO.out (by omega) hn HG.out).mono ?_
 rintro e w1 ⟨rfl, hb1⟩
 have HO1 := Lib.hid (HO.out.below hb1 (by omega))
 have HB1 := Lib.hid (HB.out.trans (hb1.mono HB.out.size))
 have HX1 := Lib.hid ((hb1.block _ (by omega)).trans HX.out)
 have HY1 := Lib.hid ((hb1.block _ (by omega)).trans HY.out)
 have hs1 := hb1.size
 clear hb1 c0 c1 HX HY HO HG HB
 rcases hinc : (List.range n).all (Lninc l) with _ | _
 ·have HF := Lib.hid (sort2_inc (ok := Lnok l) hinc)
  go_wp2
  go_ret
  exact ⟨by rw [HD.out, HF.out]; rfl, HB1.out⟩
 have HF := Lib.hid (sort2_rest (ok := Lnok l) hinc h50)
 clear hinc
 have d0 := cell_of_row _ _ 0 _ _ _ HX1.out
 have d1 := cell_of_row _ _ 0 _ _ _ HY1.out
 simp only [List.getElem?_toArray, List.getElem?_cons_zero, List.getElem?_cons_succ] at d0 d1
 have hmf : ∀ (fn : Fn) (first cap : Array Value) (w : World), (Instr.makeFunc fn first cap).run Tryz.prog w = .ok (.func fn first cap) w := fun _ _ _ _ => rfl
 go_wp2_with fail
 refine (Lncontains _ B a n c (w.heap.size + 1) l HO1.out (by omega) hn d1).mono ?_
 rintro e w2 ⟨rfl, hb2⟩
 have HB2 := Lib.hid (HB1.out.trans (hb2.mono HB1.out.size))
 clear hb2 d0 d1
 go_wp2
 go_ret
 exact ⟨by rw [HD.out, HF.out]; rfl, HB2.out⟩
set_option maxRecDepth 100000 in
set_option maxHeartbeats 5000000 in
theorem LnbyItem (w : World) (a : Option Addr) (n c : Nat) : Calls Tryz.prog 71 #[.slice a n c, .func (.func 72) #[] #[]] w fun e w' => e = .returned (.agg #[.slice a n c, .func (.func 98) #[] #[.pointer (some ⟨w.heap.size, 0, none⟩)]]) ∧ w'.cell? ⟨w.heap.size, 0, none⟩ = some (.func (.func 72) #[] #[]) ∧ Below w.heap.size w w' := by
 have hmf : ∀ (fn : Fn) (first cap : Array Value) (w : World), (Instr.makeFunc fn first cap).run Tryz.prog w = .ok (.func fn first cap) w := fun _ _ _ _ => rfl
 go_enter Tryz.func71, Tryz.ntmps71
 go_wp2
 refine bodyPost_ret (v := .agg #[.slice a n c, .func (.func 98) #[] #[.pointer (some ⟨w.heap.size, 0, none⟩)]]) (by simp [results, Tryz.results71, go_sem]) rfl ⟨rfl, (cell_of_row _ _ 0 _ _ _ (heap_alloc2_old _ _ _)).trans rfl, ((Below.refl _ w).alloc (Nat.le_refl _) _).alloc (by show _ ≤ (w.heap.push _).size; simp) _⟩
set_option maxRecDepth 100000 in
set_option maxHeartbeats 5000000 in
theorem Lnlist (w : World) (a : Option Addr) (n c : Nat) : Calls Tryz.prog 42 #[.slice a n c] w fun e w' => (∃ g, e = .returned (.agg #[.slice a n c, .func (.func 98) #[] #[.pointer (some ⟨g, 0, none⟩)]]) ∧ w'.cell? ⟨g, 0, none⟩ = some (.func (.func 72) #[] #[])) ∧ Below w.heap.size w w' := by
 have hmf : ∀ (fn : Fn) (first cap : Array Value) (w : World), (Instr.makeFunc fn first cap).run Tryz.prog w = .ok (.func fn first cap) w := fun _ _ _ _ => rfl
 go_enter Tryz.func42, Tryz.ntmps42
 go_wp2_with fail
 refine (LnbyItem _ a n c).mono ?_
 rintro e w1 ⟨rfl, hc, hb1⟩
 have hx := (hb1.block _ (by show _ < (w.heap.push _).size; simp)).trans (heap_alloc_new w (.cells #[.slice none 0 0, .nilFunc] 88))
 have c0 := (cell_of_row _ _ 0 _ _ _ hx).trans rfl
 have c1 := (cell_of_row _ _ 1 _ _ _ hx).trans rfl
 have f0 : w1.frozen? ⟨w.heap.size, 0, none⟩ = false := frozen_of_row _ _ _ _ _ hx
 have f1 : w1.frozen? ⟨w.heap.size, 1, none⟩ = false := frozen_of_row _ _ _ _ _ hx
 have hs1 : (w.alloc (.cells #[.slice none 0 0, .nilFunc] 88)).heap.size = w.heap.size + 1 := by show (w.heap.push _).size = _; simp
 rw [hs1] at hc ⊢
 have hx2 := heap_setCell_same _ _ 1 _ _ (.func (.func 98) #[] #[.pointer (some ⟨w.heap.size + 1, 0, none⟩)]) (heap_setCell_same _ _ 0 _ _ (.slice a n c) hx)
 have HX := Lib.hid hx2
 have HC : Hid (((w1.setCell ⟨w.heap.size, 0, none⟩ (.slice a n c)).setCell ⟨w.heap.size, 1, none⟩ (.func (.func 98) #[] #[.pointer (some ⟨w.heap.size + 1, 0, none⟩)])).cell? ⟨w.heap.size + 1, 0, none⟩ = some (.func (.func 72) #[] #[])) := (World.cell?_of_block (a := ⟨w.heap.size + 1, 0, none⟩) ((heap_setCell_other _ _ _ _ (by show w.heap.size + 1 ≠ w.heap.size; omega)).trans (heap_setCell_other _ _ _ _ (by show w.heap.size + 1 ≠ w.heap.size; omega)))).trans hc
 have HB : Hid (Below w.heap.size w ((w1.setCell ⟨w.heap.size, 0, none⟩ (.slice a n c)).setCell ⟨w.heap.size, 1, none⟩ (.func (.func 98) #[] #[.pointer (some ⟨w.heap.size + 1, 0, none⟩)]))) := ((((Below.refl _ w).alloc (Nat.le_refl _) _).trans (hb1.mono (by omega))).setCell (p := ⟨w.heap.size, 0, none⟩) (Nat.le_refl _) _).setCell (p := ⟨w.heap.size, 1, none⟩) (Nat.le_refl _) _
 clear hx hx2 hb1 hc hs1
 go_wp2
 generalize (w1.setCell ⟨w.heap.size, 0, none⟩ (.slice a n c)).setCell ⟨w.heap.size, 1, none⟩ (.func (.func 98) #[] #[.pointer (some ⟨w.heap.size + 1, 0, none⟩)]) = wf at HX HC HB ⊢
 have d0 := (cell_of_row _ _ 0 _ _ _ HX.out).trans rfl
 have d1 := (cell_of_row _ _ 1 _ _ _ HX.out).trans rfl
 exact bodyPost_ret (v := .agg #[.slice a n c, .func (.func 98) #[] #[.pointer (some ⟨w.heap.size + 1, 0, none⟩)]]) (by simp [results, Tryz.results42, go_sem, d0, d1]) rfl ⟨⟨w.heap.size + 1, rfl, HC.out⟩, HB.out⟩
set_option maxRecDepth 100000 in
theorem implLinesOk (w : World) (B : Nat) (a : Option Addr) (n c : Nat) (l : List LnV) (h : Lns w B a n l) (hB : B ≤ w.heap.size) (hn : n ≤ 1048576) : Calls Tryz.prog 21 #[.slice a n c] w fun e w' => e = .returned (.bool (LnsB l)) ∧ Below w.heap.size w w' := by
 have H := Lib.hid h
 clear h
 go_enter Tryz.func21, Tryz.ntmps21
 go_wp2_with fail
 refine (Lnlist w a n c).mono ?_
 rintro e w1 ⟨⟨g, rfl, hc⟩, hb1⟩
 have H1 := Lib.hid (H.out.below hb1 hB)
 have HB1 := Lib.hid hb1
 have HC := Lib.hid hc
 have hs1 := hb1.size
 clear hb1 hc
 go_wp2_with fail
 refine (LnsortedOk w1 B a n c g l H1.out (by omega) hn HC.out).mono ?_
 rintro e w2 ⟨rfl, hb2⟩
 have HB2 := Lib.hid (HB1.out.trans (hb2.mono HB1.out.size))
 clear hb2
 go_wp2
 go_ret
 exact ⟨rfl, HB2.out⟩
theorem text_beq {s t : ByteArray} : (s.toList == t.toList) = true ↔ s = t := ⟨fun h => text_eqP (by simpa using h), fun h => by rw [h]; simp⟩
def findO (l : List OfV) (s : ByteArray) : Option OfV := l.find? fun o => o.item.toList == s.toList
def findP (l : List PrV) (s : ByteArray) : Option PrV := l.find? fun o => o.item.toList == s.toList
theorem atOf_mem {l : List OfV} {x : OfV} (h : x ∈ l) : ∃ i, i < l.length ∧ atOf l i = x := by
 obtain ⟨i, hi, e⟩ := List.mem_iff_getElem.1 h
 refine ⟨i, hi, ?_⟩
 unfold atOf
 rw [List.getD_eq_getElem?_getD, List.getElem?_eq_getElem hi]
 exact e
theorem atPr_mem {l : List PrV} {x : PrV} (h : x ∈ l) : ∃ i, i < l.length ∧ atPr l i = x := by
 obtain ⟨i, hi, e⟩ := List.mem_iff_getElem.1 h
 refine ⟨i, hi, ?_⟩
 unfold atPr
 rw [List.getD_eq_getElem?_getD, List.getElem?_eq_getElem hi]
 exact e
theorem mem_atOf {l : List OfV} {i : Nat} (h : i < l.length) : atOf l i ∈ l := by
 unfold atOf
 rw [List.getD_eq_getElem?_getD, List.getElem?_eq_getElem h]
 exact List.getElem_mem h
theorem mem_atPr {l : List PrV} {i : Nat} (h : i < l.length) : atPr l i ∈ l := by
 unfold atPr
 rw [List.getD_eq_getElem?_getD, List.getElem?_eq_getElem h]
 exact List.getElem_mem h
theorem offer_is (l : List OfV) (s : ByteArray) : OfferIs l s ((findO l s).getD OfV.zero) (findO l s).isSome := by
 unfold findO
 cases h : l.find? fun o => o.item.toList == s.toList with
 | none =>
  refine .inr ⟨rfl, rfl, fun i hi e => ?_⟩
  have := List.find?_eq_none.1 h _ (mem_atOf hi)
  exact this (text_beq.2 e)
 | some o =>
  obtain ⟨i, hi, e⟩ := atOf_mem (List.mem_of_find?_eq_some h)
  have hp := List.find?_some h
  exact .inl ⟨rfl, i, hi, by rw [e]; exact text_beq.1 hp, e.symm⟩
theorem price_is (l : List PrV) (s : ByteArray) : PriceIs l s ((findP l s).getD PrV.zero) (findP l s).isSome := by
 unfold findP
 cases h : l.find? fun o => o.item.toList == s.toList with
 | none =>
  refine .inr ⟨rfl, rfl, fun i hi e => ?_⟩
  have := List.find?_eq_none.1 h _ (mem_atPr hi)
  exact this (text_beq.2 e)
 | some o =>
  obtain ⟨i, hi, e⟩ := atPr_mem (List.mem_of_find?_eq_some h)
  have hp := List.find?_some h
  exact .inl ⟨rfl, i, hi, by rw [e]; exact text_beq.1 hp, e.symm⟩
theorem offer_val {l : List OfV} {s : ByteArray} {o : OfV} {b : Bool} (hi : IncOf l) (h : OfferIs l s o b) : o = (findO l s).getD OfV.zero ∧ b = (findO l s).isSome := offerIs_one hi h (offer_is l s)
theorem price_val {l : List PrV} {s : ByteArray} {o : PrV} {b : Bool} (hi : IncP l) (h : PriceIs l s o b) : o = (findP l s).getD PrV.zero ∧ b = (findP l s).isSome := priceIs_one hi h (price_is l s)
/-- How many of a line are paid. -/
def qtyPaid (os : List OfV) (x : LnV) : Int := match findO os x.item with
 | none => x.qty
 | some o => paidZ x.qty o.buy o.free
def centsOf (ps : List PrV) (s : ByteArray) : Int := ((findP ps s).getD PrV.zero).cents
def rowV (ps : List PrV) (os : List OfV) (x : LnV) : RwV := ⟨x.item, x.qty, centsOf ps x.item * qtyPaid os x⟩
def openL (l : List LnV) : List LnV := l.filter fun x => !x.saved
def hasP (ps : List PrV) (x : LnV) : Bool := (findP ps x.item).isSome
def rowsV (ps : List PrV) (os : List OfV) (l : List LnV) : List RwV := (openL l).map (rowV ps os)
def sumR (r : List RwV) : Int := (r.map RwV.cents).sum
def billB (l : List LnV) (ps : List PrV) (os : List OfV) : Bool := LnsB l && (PrsB ps && (OfsB os && (openL l).all (hasP ps)))
def billRs (l : List LnV) (ps : List PrV) (os : List OfV) (R : Bool) : List RwV := if R = true then rowsV ps os l else []
def billSum (l : List LnV) (ps : List PrV) (os : List OfV) (R : Bool) : Int := if R = true then sumR (rowsV ps os l) else 0
theorem prs_parts {l : List PrV} (h : PrsB l = true) : (∀ i, i < l.length → (atPr l i).ok = true) ∧ IncP l ∧ l.length ≤ 50 := by
 refine ⟨fun i hi => ?_, incP_of h, ?_⟩
 ·unfold PrsB sortB at h
  simp only [Bool.and_eq_true, List.all_eq_true, List.mem_range] at h
  exact h.1 i hi
 ·unfold PrsB sortB at h
  simp only [Bool.and_eq_true, decide_eq_true_eq] at h
  exact h.2.2
theorem ofs_parts {l : List OfV} (h : OfsB l = true) : (∀ i, i < l.length → (atOf l i).ok = true) ∧ IncOf l ∧ l.length ≤ 50 := by
 refine ⟨fun i hi => ?_, incOf_of h, ?_⟩
 ·unfold OfsB sortB at h
  simp only [Bool.and_eq_true, List.all_eq_true, List.mem_range] at h
  exact h.1 i hi
 ·unfold OfsB sortB at h
  simp only [Bool.and_eq_true, decide_eq_true_eq] at h
  exact h.2.2
theorem lns_parts {l : List LnV} (h : LnsB l = true) : (∀ i, i < l.length → (atLn l i).ok = true) ∧ l.length ≤ 200 := by
 refine ⟨fun i hi => ?_, ?_⟩
 ·unfold LnsB sort2 at h
  simp only [Bool.and_eq_true, List.all_eq_true, List.mem_range] at h
  exact h.1 i hi
 ·unfold LnsB sort2 at h
  simp only [Bool.and_eq_true, decide_eq_true_eq] at h
  exact h.2.2
theorem ln_ok {o : LnV} (h : o.ok = true) : itemB o.item = true ∧ 1 ≤ o.qty ∧ o.qty ≤ 999 := by
 unfold LnV.ok at h
 rw [Bool.and_eq_true] at h
 have := inB_iff.1 h.2
 exact ⟨h.1, this.1, this.2⟩
theorem of_ok {o : OfV} (h : o.ok = true) : 1 ≤ o.buy ∧ o.buy ≤ 99 ∧ 1 ≤ o.free ∧ o.free ≤ 99 := by
 unfold OfV.ok offB at h
 simp only [Bool.and_eq_true] at h
 have h1 := inB_iff.1 h.2.1
 have h2 := inB_iff.1 h.2.2
 exact ⟨h1.1, h1.2, h2.1, h2.2⟩
theorem pr_ok {o : PrV} (h : o.ok = true) : 1 ≤ o.cents ∧ o.cents ≤ 1000000 := by
 unfold PrV.ok at h
 rw [Bool.and_eq_true] at h
 exact inB_iff.1 h.2
theorem findO_ok {l : List OfV} (h : OfsB l = true) {s : ByteArray} {o : OfV} (hf : findO l s = some o) : o.ok = true := by
 obtain ⟨i, hi, e⟩ := atOf_mem (List.mem_of_find?_eq_some hf)
 rw [← e]
 exact (ofs_parts h).1 i hi
theorem qtyPaid_le {os : List OfV} (h : OfsB os = true) {x : LnV} (hx : x.ok = true) : 0 ≤ qtyPaid os x ∧ qtyPaid os x ≤ 999 := by
 obtain ⟨_, h1, h2⟩ := ln_ok hx
 unfold qtyPaid
 cases hf : findO os x.item with
 | none => show 0 ≤ x.qty ∧ x.qty ≤ 999; omega
 | some o =>
  obtain ⟨k1, k2, k3, k4⟩ := of_ok (findO_ok h hf)
  obtain ⟨p1, p2, p3⟩ := paid_bounds (q := x.qty) (b := o.buy) (f := o.free) (by omega) k1 k3
  show 0 ≤ paidZ x.qty o.buy o.free ∧ paidZ x.qty o.buy o.free ≤ 999
  unfold paidZ
  omega
theorem cents_le {ps : List PrV} (h : PrsB ps = true) (s : ByteArray) : 0 ≤ centsOf ps s ∧ centsOf ps s ≤ 1000000 := by
 unfold centsOf
 cases hf : findP ps s with
 | none => exact ⟨by decide, by decide⟩
 | some o =>
  obtain ⟨i, hi, e⟩ := atPr_mem (List.mem_of_find?_eq_some hf)
  have := pr_ok ((prs_parts h).1 i hi)
  rw [e] at this
  show 0 ≤ o.cents ∧ o.cents ≤ 1000000
  omega
theorem row_le {ps : List PrV} {os : List OfV} (h : PrsB ps = true) (h2 : OfsB os = true) {x : LnV} (hx : x.ok = true) : 0 ≤ (rowV ps os x).cents ∧ (rowV ps os x).cents ≤ 999000000 := by
 obtain ⟨a1, a2⟩ := cents_le h x.item
 obtain ⟨b1, b2⟩ := qtyPaid_le h2 hx
 show 0 ≤ centsOf ps x.item * qtyPaid os x ∧ centsOf ps x.item * qtyPaid os x ≤ 999000000
 refine ⟨Int.mul_nonneg a1 b1, ?_⟩
 have := Int.mul_le_mul a2 b2 b1 (by omega)
 omega
theorem openL_snoc {l : List LnV} {k : Nat} (hk : k < l.length) : openL (l.take (k + 1)) = if (atLn l k).saved = true then openL (l.take k) else openL (l.take k) ++ [atLn l k] := by
 have e : l.take (k + 1) = l.take k ++ [atLn l k] := by
  unfold atLn
  rw [List.take_add_one, List.getD_eq_getElem?_getD, List.getElem?_eq_getElem hk]
  rfl
 unfold openL
 rw [e, List.filter_append]
 cases hs : (atLn l k).saved <;> simp [hs]
theorem rowsV_snoc {ps : List PrV} {os : List OfV} {l : List LnV} {k : Nat} (hk : k < l.length) : rowsV ps os (l.take (k + 1)) = if (atLn l k).saved = true then rowsV ps os (l.take k) else rowsV ps os (l.take k) ++ [rowV ps os (atLn l k)] := by
 unfold rowsV
 rw [openL_snoc hk]
 split
 ·rfl
 ·rw [List.map_append]; rfl
theorem sumR_snoc (r : List RwV) (x : RwV) : sumR (r ++ [x]) = sumR r + x.cents := by
 unfold sumR
 rw [List.map_append, List.sum_append]
 simp
theorem openL_len (l : List LnV) : (openL l).length ≤ l.length := List.length_filter_le _ _
theorem sum_le {ps : List PrV} {os : List OfV} (h : PrsB ps = true) (h2 : OfsB os = true) : ∀ (l : List LnV), (∀ x, x ∈ l → x.ok = true) → 0 ≤ sumR (l.map (rowV ps os)) ∧ sumR (l.map (rowV ps os)) ≤ 999000000 * (l.length : Int)
 | [], _ => by unfold sumR; simp
 | x :: r, hx => by
  obtain ⟨a1, a2⟩ := sum_le h h2 r fun y hy => hx y (by simp [hy])
  obtain ⟨b1, b2⟩ := row_le h h2 (hx x (by simp))
  have e : sumR ((x :: r).map (rowV ps os)) = (rowV ps os x).cents + sumR (r.map (rowV ps os)) := by unfold sumR; simp
  rw [e, List.length_cons]
  omega
end Go.Proofs.YtgagchlcafdiaaaGreat
