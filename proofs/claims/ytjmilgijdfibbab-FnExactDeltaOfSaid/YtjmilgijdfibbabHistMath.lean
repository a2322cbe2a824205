/- Mathematics of the history: choosing the least of the heads yields the sorted list. -/
import Derived.Test.YtjmilgijdfibbabPrecW
import Derived.Test.YtjmilgijdfibbabLookW
namespace Go.Proofs.Ytjmilgijdfibbab
open Go.RowKit

theorem bef_iff {a b : OpV} : befO a b = true ↔ a.stamp < b.stamp ∨ (a.stamp = b.stamp ∧ (a.dev < b.dev ∨ (a.dev = b.dev ∧ a.seq < b.seq))) := by unfold befO preB; exact decide_eq_true_iff
theorem bef_trans {a b c : OpV} (h1 : befO a b = true) (h2 : befO b c = true) : befO a c = true := by rw [bef_iff] at *; omega
theorem bef_irr {a : OpV} (h : befO a a = true) : False := by rw [bef_iff] at h; omega
theorem bef_total (a b : OpV) : befO a b = true ∨ befO b a = true ∨ (a.dev = b.dev ∧ a.seq = b.seq) := by rw [bef_iff, bef_iff]; omega
theorem befV_ok {a b : OpV} (ha : a.ok = true) (hb : b.ok = true) : befV a b = befO a b := by
  have ha' : opB a.dev a.seq a.stamp a.kind a.item a.qty a.level a.undos = true := ha
  have hb' : opB b.dev b.seq b.stamp b.kind b.item b.qty b.level b.undos = true := hb
  unfold befV befB
  rw [ha', hb']
  rfl
def SortedO (L : List OpV) : Prop := L.Pairwise fun a b => befO a b = true
theorem ins_nil (x : OpV) : insO [] x = [x] := rfl
theorem ins_pos {y : OpV} {L : List OpV} {x : OpV} (h : befO y x = true) : insO (y :: L) x = y :: insO L x := by
  have e : cntO (y :: L) x = cntO L x + 1 := by
    unfold cntO
    rw [List.takeWhile_cons_of_pos (by simpa using h)]
    rfl
  unfold insO
  rw [e]
  rfl
theorem ins_neg {y : OpV} {L : List OpV} {x : OpV} (h : befO y x = false) : insO (y :: L) x = x :: y :: L := by
  have e : cntO (y :: L) x = 0 := by
    unfold cntO
    rw [List.takeWhile_cons_of_neg (by simp [h])]
    rfl
  unfold insO
  rw [e]
  rfl
theorem ins_mem (L : List OpV) (x y : OpV) : y ∈ insO L x ↔ y ∈ L ∨ y = x := by
  have e := List.take_append_drop (cntO L x) L
  unfold insO
  constructor
  · intro h
    rcases List.mem_append.1 h with h | h
    · rcases List.mem_append.1 h with h | h
      · exact Or.inl (List.mem_of_mem_take h)
      · exact Or.inr (List.mem_singleton.1 h)
    · exact Or.inl (List.mem_of_mem_drop h)
  · rintro (h | rfl)
    · rw [← e] at h
      rcases List.mem_append.1 h with h | h
      · exact List.mem_append.2 (Or.inl (List.mem_append.2 (Or.inl h)))
      · exact List.mem_append.2 (Or.inr h)
    · exact List.mem_append.2 (Or.inl (List.mem_append.2 (Or.inr (List.mem_singleton.2 rfl))))
theorem ins_sorted : ∀ {L : List OpV} {x : OpV}, SortedO L → (∀ y ∈ L, befO y x = true ∨ befO x y = true) → SortedO (insO L x)
  | [], x, _, _ => by rw [ins_nil]; exact List.pairwise_singleton _ _
  | y :: L, x, h, ht => by
    have hc := List.pairwise_cons.1 h
    rcases hb : befO y x with _ | _
    · rw [ins_neg hb]
      have hxy : befO x y = true := (ht y (List.mem_cons_self)).resolve_left (by rw [hb]; simp)
      refine List.pairwise_cons.2 ⟨fun z hz => ?_, h⟩
      rcases List.mem_cons.1 hz with rfl | hz
      · exact hxy
      · exact bef_trans hxy (hc.1 z hz)
    · rw [ins_pos hb]
      refine List.pairwise_cons.2 ⟨fun z hz => ?_, ins_sorted hc.2 fun z hz => ht z (List.mem_cons_of_mem _ hz)⟩
      rcases (ins_mem L x z).1 hz with hz | rfl
      · exact hc.1 z hz
      · exact hb
theorem sort_mem (l : List OpV) : ∀ k, k ≤ l.length → ∀ y, y ∈ sortTo l k ↔ ∃ j, j < k ∧ atOp l j = y
  | 0, _, y => by
    have : sortTo l 0 = [] := by rw [sortTo, List.take_zero]; rfl
    rw [this]
    simp
  | k + 1, h, y => by
    rw [sort_step (by omega), ins_mem, sort_mem l k (by omega)]
    constructor
    · rintro (⟨j, hj, e⟩ | rfl)
      · exact ⟨j, by omega, e⟩
      · exact ⟨k, by omega, rfl⟩
    · rintro ⟨j, hj, e⟩
      rcases Nat.lt_or_ge j k with h1 | h1
      · exact Or.inl ⟨j, h1, e⟩
      · obtain rfl : j = k := by omega
        exact Or.inr e.symm
theorem sort_sorted {l : List OpV} (h : incB l = true) : ∀ k, k ≤ l.length → SortedO (sortTo l k)
  | 0, _ => by
    have : sortTo l 0 = [] := by rw [sortTo, List.take_zero]; rfl
    rw [this]
    exact List.Pairwise.nil
  | k + 1, hk => by
    rw [sort_step (by omega)]
    refine ins_sorted (sort_sorted h k (by omega)) fun y hy => ?_
    obtain ⟨j, hj, rfl⟩ := (sort_mem l k (by omega) y).1 hy
    rcases bef_total (atOp l j) (atOp l k) with h1 | h1 | h1
    · exact Or.inl h1
    · exact Or.inr h1
    · have := inc_uniq h (i := j) (j := k) (by omega) (by omega) (dev := (atOp l k).dev) (seq := (atOp l k).seq) h1 ⟨rfl, rfl⟩
      omega
theorem run_sorted {l : List OpV} {dev st c : Nat} (h : runB l dev st c = true) : ∀ i j, i < j → j < c → (atOp l (st + i)).stamp < (atOp l (st + j)).stamp := by
  intro i j hij hj
  induction j with
  | zero => omega
  | succ j ih =>
    have hf : fitB l dev st (j + 1) = true := by
      unfold runB at h
      rw [List.all_eq_true] at h
      exact h _ (by simpa using hj)
    unfold fitB at hf
    simp only [Bool.and_eq_true, decide_eq_true_eq] at hf
    rw [prev_step] at hf
    have hl := hf.2.2.2
    rcases Nat.lt_or_ge i j with h1 | h1
    · exact Int.lt_trans (ih h1 (by omega)) hl
    · obtain rfl : i = j := by omega
      exact hl
theorem seg_sorted {xs : List Int} {l : List OpV} {d : Nat} (h : devB xs l d = true) : SortedO (segOf xs l d) := by
  unfold devB at h
  rw [Bool.and_eq_true] at h
  refine List.pairwise_iff_getElem.2 fun i j hi hj hij => ?_
  have hjc : j < (xs.getD d 0).toNat := by unfold segOf at hj; rw [List.length_take] at hj; omega
  have e : ∀ i (hi : i < (segOf xs l d).length), (segOf xs l d)[i] = atOp (segOf xs l d) i := fun i hi => by
    unfold atOp; rw [List.getD_eq_getElem?_getD, List.getElem?_eq_getElem hi]; rfl
  rw [e i hi, e j hj]
  unfold segOf
  rw [at_cut (by omega), at_cut hjc, bef_iff]
  exact Or.inl (run_sorted h.2 i j hij hjc)
/-- What is left of the lists, R, is what is left of the history, T. -/
structure Merge (T : List OpV) (R : Nat → List OpV) : Prop where
  srt : SortedO T
  mem : ∀ y, y ∈ T ↔ ∃ e, e < 4 ∧ y ∈ R e
  run : ∀ e, e < 4 → SortedO (R e)
  dev : ∀ e, e < 4 → ∀ y ∈ R e, y.dev = (e : Int)
  ok : ∀ e, e < 4 → ∀ y ∈ R e, y.ok = true
theorem prec_all {R : Nat → List OpV} {x : OpV} (h : precB R x = true) {e : Nat} (he : e < 4) : headOk (R e) x = true := by
  unfold precB at h
  rw [List.all_eq_true] at h
  exact h e (by simpa using he)
theorem head_cons {y x : OpV} {r : List OpV} (h : headOk (y :: r) x = true) (hy : y.ok = true) (hx : x.ok = true) : befO y x = false := by
  rw [headOk_at (by simp)] at h
  have e : atOp (y :: r) 0 = y := rfl
  rw [e, befV_ok hy hx] at h
  simpa using h
theorem Merge.step {T : List OpV} {R : Nat → List OpV} (h : Merge T R) {d : Nat} (hd : d < 4) {x : OpV} {rest : List OpV} (hR : R d = x :: rest) (hp : precB R x = true) :
    ∃ T', T = x :: T' ∧ Merge T' (fun e => if e = d then rest else R e) := by
  have hxd : x ∈ R d := by rw [hR]; exact List.mem_cons_self
  have hxT : x ∈ T := (h.mem x).2 ⟨d, hd, hxd⟩
  have hxok := h.ok d hd x hxd
  cases T with
  | nil => cases hxT
  | cons t T' =>
    have hc := List.pairwise_cons.1 h.srt
    obtain ⟨e, he, hte⟩ := (h.mem t).1 List.mem_cons_self
    have htx : t = x := by
      rcases List.mem_cons.1 hxT with rfl | hx'
      · rfl
      have hb := hc.1 x hx'
      exfalso
      have hH := prec_all hp he
      cases hRe : R e with
      | nil => rw [hRe] at hte; cases hte
      | cons y r =>
        rw [hRe] at hH hte
        have hyok := h.ok e he y (by rw [hRe]; exact List.mem_cons_self)
        have hf := head_cons hH hyok hxok
        have hs := h.run e he
        rw [hRe] at hs
        rcases List.mem_cons.1 hte with rfl | ht
        · rw [hb] at hf; cases hf
        · rw [bef_trans ((List.pairwise_cons.1 hs).1 t ht) hb] at hf; cases hf
    subst htx
    refine ⟨T', rfl, hc.2, fun y => ?_, fun e he => ?_, fun e he y hy => ?_, fun e he y hy => ?_⟩
    · constructor
      · intro hy
        obtain ⟨e2, he2, hy2⟩ := (h.mem y).1 (List.mem_cons_of_mem _ hy)
        refine ⟨e2, he2, ?_⟩
        by_cases e3 : e2 = d
        · subst e3
          rw [if_pos rfl]
          rw [hR] at hy2
          rcases List.mem_cons.1 hy2 with rfl | h2
          · exact absurd (hc.1 y hy) (fun h => bef_irr h)
          · exact h2
        · rw [if_neg e3]; exact hy2
      · rintro ⟨e2, he2, hy2⟩
        by_cases e3 : e2 = d
        · subst e3
          rw [if_pos rfl] at hy2
          have hs := h.run e2 he2
          rw [hR] at hs
          have hb := (List.pairwise_cons.1 hs).1 y hy2
          rcases List.mem_cons.1 ((h.mem y).2 ⟨e2, he2, by rw [hR]; exact List.mem_cons_of_mem _ hy2⟩) with rfl | h2
          · exact (bef_irr hb).elim
          · exact h2
        · rw [if_neg e3] at hy2
          rcases List.mem_cons.1 ((h.mem y).2 ⟨e2, he2, hy2⟩) with rfl | h2
          · have h1 := h.dev e2 he2 y hy2
            have h2 := h.dev d hd y hxd
            omega
          · exact h2
    · by_cases e3 : e = d
      · subst e3
        rw [if_pos rfl]
        have hs := h.run e he
        rw [hR] at hs
        exact (List.pairwise_cons.1 hs).2
      · rw [if_neg e3]; exact h.run e he
    · by_cases e3 : e = d
      · subst e3
        rw [if_pos rfl] at hy
        exact h.dev e he y (by rw [hR]; exact List.mem_cons_of_mem _ hy)
      · rw [if_neg e3] at hy; exact h.dev e he y hy
    · by_cases e3 : e = d
      · subst e3
        rw [if_pos rfl] at hy
        exact h.ok e he y (by rw [hR]; exact List.mem_cons_of_mem _ hy)
      · rw [if_neg e3] at hy; exact h.ok e he y hy
theorem Merge.stuck {T : List OpV} {R : Nat → List OpV} (h : Merge T R) (hp : ∀ d, d < 4 → ∀ x rest, R d = x :: rest → precB R x = false) : T = [] := by
  cases T with
  | nil => rfl
  | cons t T' =>
    exfalso
    have hc := List.pairwise_cons.1 h.srt
    obtain ⟨d, hd, htd⟩ := (h.mem t).1 List.mem_cons_self
    have hmin : ∀ e, e < 4 → ∀ y ∈ R e, befO y t = true → False := fun e he y hy hb => by
      rcases List.mem_cons.1 ((h.mem y).2 ⟨e, he, hy⟩) with rfl | h2
      · exact bef_irr hb
      · exact bef_irr (bef_trans hb (hc.1 y h2))
    have htok := h.ok d hd t htd
    cases hRd : R d with
    | nil => rw [hRd] at htd; cases htd
    | cons y r =>
      have hyt : y = t := by
        have htd' := htd
        rw [hRd] at htd'
        rcases List.mem_cons.1 htd' with e | h2
        · exact e.symm
        · have hs := h.run d hd
          rw [hRd] at hs
          exact (hmin d hd y (by rw [hRd]; exact List.mem_cons_self) ((List.pairwise_cons.1 hs).1 t h2)).elim
      subst hyt
      have h1 := hp d hd y r hRd
      have h2 : precB R y = true := prec_yes fun e he => by
        cases hRe : R e with
        | nil => exact headOk_nil rfl
        | cons z r2 =>
          have hz : z ∈ R e := by rw [hRe]; exact List.mem_cons_self
          rw [headOk_at (by simp)]
          have e1 : atOp (z :: r2) 0 = z := rfl
          rw [e1, befV_ok (h.ok e he z hz) htok]
          rcases hb : befO z y with _ | _
          · rfl
          · exact (hmin e he z hz hb).elim
      rw [h1] at h2
      cases h2
theorem Merge.start {xs : List Int} {l : List OpV} (h : cartB xs l = true) : Merge (sortTo l l.length) (fun e => segOf xs l e) := by
  obtain ⟨_, h1, h2⟩ := cart_true h
  refine ⟨sort_sorted (cart_inc h) _ (Nat.le_refl _), fun y => ?_, fun e he => seg_sorted (h1 e he), fun e he y hy => (seg_dev (h1 e he) y hy).2, fun e he y hy => (seg_dev (h1 e he) y hy).1⟩
  have hm : y ∈ sortTo l l.length ↔ y ∈ l := by
    rw [sort_mem l _ (Nat.le_refl _)]
    constructor
    · rintro ⟨j, hj, rfl⟩
      unfold atOp
      rw [List.getD_eq_getElem?_getD, List.getElem?_eq_getElem hj]
      exact List.getElem_mem _
    · intro hy
      obtain ⟨j, hj, e⟩ := List.mem_iff_getElem.1 hy
      exact ⟨j, hj, by unfold atOp; rw [List.getD_eq_getElem?_getD, List.getElem?_eq_getElem hj]; exact e⟩
  rw [hm]
  constructor
  · intro hy
    rw [list_segs (xs := xs) h2] at hy
    rcases List.mem_append.1 hy with h | h
    · exact ⟨0, by omega, h⟩
    rcases List.mem_append.1 h with h | h
    · exact ⟨1, by omega, h⟩
    rcases List.mem_append.1 h with h | h
    · exact ⟨2, by omega, h⟩
    · exact ⟨3, by omega, h⟩
  · rintro ⟨e, he, hy⟩
    exact List.mem_of_mem_drop (List.mem_of_mem_take hy)
end Go.Proofs.Ytjmilgijdfibbab
