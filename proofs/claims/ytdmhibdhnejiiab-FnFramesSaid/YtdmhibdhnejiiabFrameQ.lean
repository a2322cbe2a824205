/- Plain mathematics of frames one behind the other: what is read of them, what is read of a part, what is read of them and one more. No program text is reached. -/
import Derived.Test.YtdmhibdhnejiiabTakeLawW
namespace Go.Proofs.Ytdmhibdhnejiiab
open Go.RowKit
set_option linter.unusedVariables false

theorem ext_sub (s : ByteArray) (a b m : Nat) (hb : b ≤ m) : (s.extract 0 m).extract a b = s.extract a b := by
  apply text_data
  rw [ext_data, ext_data, ext_data, List.drop_zero, Nat.sub_zero, List.drop_take, List.take_take]
  congr 1
  omega
theorem ext_agree {u s : ByteArray} {a b m : Nat} (h : u.extract 0 m = s.extract 0 m) (hb : b ≤ m) : u.extract a b = s.extract a b := by
  rw [← ext_sub u a b m hb, h, ext_sub s a b m hb]
theorem byt_agree {u s : ByteArray} {m i : Nat} (h : u.extract 0 m = s.extract 0 m) (hi : i < m) : byt u i = byt s i := by
  have h1 := byt_ext (s := u) (a := 0) (b := m) (i := i) (by omega)
  have h2 := byt_ext (s := s) (a := 0) (b := m) (i := i) (by omega)
  rw [Nat.zero_add] at h1 h2
  rw [← h1, h, h2]
theorem pre_agree {u s : ByteArray} {m a : Nat} (h : u.extract 0 m = s.extract 0 m) (ha : a + 4 ≤ m) : ∀ k, k ≤ 4 → pre u a k = pre s a k
  | 0, _ => rfl
  | k + 1, hk => by rw [pre, pre, pre_agree h ha k (by omega), byt_agree h (by omega)]
theorem frame_agree {u s : ByteArray} {m a : Nat} (h : u.extract 0 m = s.extract 0 m) (hu : m ≤ u.size) (hs : m ≤ s.size) (hp : a + 8 + pre s a 4 ≤ m) :
    pre u a 4 = pre s a 4 ∧ dataAt u a = dataAt s a ∧ frameB u a = frameB s a := by
  have e1 := pre_agree h (a := a) (by omega) 4 (Nat.le_refl _)
  have e2 : dataAt u a = dataAt s a := by unfold dataAt; rw [e1, ext_agree h hp]
  refine ⟨e1, e2, ?_⟩
  by_cases hb : pre s a 4 ≤ 100000
  · rw [frame_long (s := u) (at_ := a) ⟨by omega, by omega, by omega⟩, frame_long (s := s) (at_ := a) ⟨by omega, hb, by omega⟩, e2, ext_agree h (a := a + 4) (b := a + 8) (by omega)]
  · rw [frame_short (s := u) (at_ := a) (by omega), frame_short (s := s) (at_ := a) (by omega)]
theorem ext_join (s : ByteArray) {a b c : Nat} (h1 : a ≤ b) (h2 : b ≤ c) : s.extract a b ++ s.extract b c = s.extract a c := by
  apply text_data
  rw [Joins.data_append, ext_data, ext_data, ext_data, show c - a = (b - a) + (c - b) by omega, List.take_add, List.drop_drop, show a + (b - a) = b by omega]
theorem frame_str {s : ByteArray} {a : Nat} (h : frameB s a = true) : frameStr (dataAt s a) = s.extract a (a + 8 + pre s a 4) := by
  have hz := frame_size h
  have h1 := head_iff (s := s) (at_ := a) ⟨by omega, hz.2, hz.1⟩
  rw [h, beq_iff_eq] at h1
  unfold frameStr
  rw [text_extS h1]
  unfold dataAt
  exact ext_join s (by omega) (by omega)
/-- Frames one behind the other. -/
def catF (L : List ByteArray) : ByteArray := L.foldl (fun a d => a ++ frameStr d) ⟨#[]⟩
theorem catF_snoc (L : List ByteArray) (d : ByteArray) : catF (L ++ [d]) = catF L ++ frameStr d := by unfold catF; rw [List.foldl_append]; rfl
theorem cat_go (s : ByteArray) : ∀ f a out, a ≤ s.size → catF out = s.extract 0 a → (∀ d ∈ out, d.size ≤ 100000) →
    catF (takeF s f a out).1 = s.extract 0 (takeF s f a out).2 ∧ (takeF s f a out).2 ≤ s.size ∧ a ≤ (takeF s f a out).2 ∧ ∀ d ∈ (takeF s f a out).1, d.size ≤ 100000
  | 0, a, out, h1, h2, h3 => ⟨h2, h1, Nat.le_refl _, h3⟩
  | f + 1, a, out, h1, h2, h3 => by
    have e : takeF s (f + 1) a out = if frameB s a = true then takeF s f (a + 8 + pre s a 4) (out ++ [dataAt s a]) else (out, a) := rfl
    rw [e]
    by_cases hf : frameB s a = true
    · have hz := frame_size hf
      rw [if_pos hf]
      have h := cat_go s f (a + 8 + pre s a 4) (out ++ [dataAt s a]) hz.1 (by rw [catF_snoc, h2, frame_str hf]; exact ext_join s (by omega) (by omega)) (by
        intro d hd
        rcases List.mem_append.1 hd with h | h
        · exact h3 d h
        · rw [List.mem_singleton.1 h, dataAt_size hz.1]; exact hz.2)
      exact ⟨h.1, h.2.1, by omega, h.2.2.2⟩
    · rw [if_neg hf]
      exact ⟨h2, h1, Nat.le_refl _, h3⟩
theorem cat_frames (s : ByteArray) : catF (framesOf s) = s.extract 0 (framesEnd s) ∧ framesEnd s ≤ s.size ∧ ∀ d ∈ framesOf s, d.size ≤ 100000 := by
  have h := cat_go s (s.size + 1) 0 [] (Nat.zero_le _) (by apply text_data; rw [ext_data]; rfl) (fun d hd => by cases hd)
  exact ⟨h.1, h.2.1, h.2.2.2⟩
/-- The way along the frames of s is a way along those of a string that begins as s does. -/
theorem path (s u : ByteArray) : ∀ f a out, a ≤ s.size → u.extract 0 (takeF s f a out).2 = s.extract 0 (takeF s f a out).2 → (takeF s f a out).2 ≤ u.size → Stands u a out → (takeF s f a out).2 ≤ s.size → Stands u (takeF s f a out).2 (takeF s f a out).1
  | 0, a, out, _, _, _, h, _ => h
  | f + 1, a, out, h1, h2, h3, h4, h5 => by
    have e : takeF s (f + 1) a out = if frameB s a = true then takeF s f (a + 8 + pre s a 4) (out ++ [dataAt s a]) else (out, a) := rfl
    rw [e] at h2 h3 h5 ⊢
    by_cases hf : frameB s a = true
    · have hz := frame_size hf
      rw [if_pos hf] at h2 h3 h5 ⊢
      have hm : a + 8 + pre s a 4 ≤ (takeF s f (a + 8 + pre s a 4) (out ++ [dataAt s a])).2 := by
        clear h2 h3 h4 h5 e
        generalize a + 8 + pre s a 4 = b
        generalize out ++ [dataAt s a] = o
        exact take_mono s f b o
      obtain ⟨g1, g2, g3⟩ := frame_agree h2 h3 h5 hm
      have hst := stands_step h4 (by omega) (by rw [g3]; exact hf)
      rw [g1, g2] at hst
      exact path s u f _ _ hz.1 h2 h3 hst h5
    · rw [if_neg hf] at h2 h3 h5 ⊢
      exact h4
where
  take_mono (s : ByteArray) : ∀ f b o, b ≤ (takeF s f b o).2
    | 0, b, o => Nat.le_refl _
    | f + 1, b, o => by
      show b ≤ (if _ then _ else _ : List ByteArray × Nat).2
      split
      · have := take_mono s f (b + 8 + pre s b 4) (o ++ [dataAt s b]); omega
      · exact Nat.le_refl _
theorem byt_app (x y : ByteArray) (i : Nat) : byt (x ++ y) (x.size + i) = byt y i := by
  unfold byt
  rw [Joins.data_append, List.getD_eq_getElem?_getD, List.getD_eq_getElem?_getD, List.getElem?_append_right (by simp)]
  congr 2
  simp
theorem ext_app (x y : ByteArray) (a b : Nat) : (x ++ y).extract (x.size + a) (x.size + b) = y.extract a b := by
  apply text_data
  rw [ext_data, ext_data, Joins.data_append, show x.size + b - (x.size + a) = b - a by omega]
  congr 1
  rw [show x.size = x.data.toList.length by simp, List.drop_append, List.drop_of_length_le (by omega), Nat.add_sub_cancel_left, List.nil_append]
theorem ext_front (x y : ByteArray) : (x ++ y).extract 0 x.size = x := by
  apply text_data
  rw [ext_data, Joins.data_append, List.drop_zero, Nat.sub_zero, show x.size = x.data.toList.length by simp, List.take_left']
  rfl
theorem byt_num (l : List Int) (t : ByteArray) (i : Nat) (h : i < l.length) (hr : 0 ≤ l.getD i 0 ∧ l.getD i 0 < 256) : ((byt (strOfNums l ++ t) i : Nat) : Int) = l.getD i 0 := by
  unfold byt
  rw [Joins.data_append, strOfNums_data, List.getD_eq_getElem?_getD, List.getElem?_append_left (by simpa using h), List.getElem?_map]
  rw [List.getD_eq_getElem?_getD] at hr ⊢
  rw [List.getElem?_eq_getElem h] at hr ⊢
  simp at hr ⊢
  omega
/-- The frame of data, and whatever stands behind it, is read as that frame. -/
theorem frame_back (x t : ByteArray) (ht : t.size ≤ 100000) : frameB (x ++ frameStr t) x.size = true ∧ pre (x ++ frameStr t) x.size 4 = t.size ∧ dataAt (x ++ frameStr t) x.size = t ∧ (frameStr t).size = 8 + t.size := by
  have hfz : (frameStr t).size = 8 + t.size := by unfold frameStr; rw [ByteArray.size_append, headStr_size]
  have hp : pre (x ++ frameStr t) x.size 4 = t.size := by
    have hb : ∀ i, i < 4 → ((byt (x ++ frameStr t) (x.size + i) : Nat) : Int) = (lenNums t.size).getD i 0 := fun i hi => by
      rw [byt_app]
      have e : frameStr t = strOfNums (lenNums t.size) ++ (sumStr t ++ t) := by
        unfold frameStr
        rw [headStr_eq]
        apply text_data
        rw [Joins.data_append, Joins.data_append, Joins.data_append, Joins.data_append, List.append_assoc]
      rw [e]
      refine byt_num _ _ i (by simpa [lenNums] using hi) ?_
      match i, hi with
      | 0, _ => exact ⟨by show 0 ≤ (t.size : Int) / 16777216 % 256; omega, by show (t.size : Int) / 16777216 % 256 < 256; omega⟩
      | 1, _ => exact ⟨by show 0 ≤ (t.size : Int) / 65536 % 256; omega, by show (t.size : Int) / 65536 % 256 < 256; omega⟩
      | 2, _ => exact ⟨by show 0 ≤ (t.size : Int) / 256 % 256; omega, by show (t.size : Int) / 256 % 256 < 256; omega⟩
      | 3, _ => exact ⟨by show 0 ≤ (t.size : Int) % 256; omega, by show (t.size : Int) % 256 < 256; omega⟩
    have b0 : ((byt (x ++ frameStr t) (x.size + 0) : Nat) : Int) = (t.size : Int) / 16777216 % 256 := hb 0 (by omega)
    have b1 : ((byt (x ++ frameStr t) (x.size + 1) : Nat) : Int) = (t.size : Int) / 65536 % 256 := hb 1 (by omega)
    have b2 : ((byt (x ++ frameStr t) (x.size + 2) : Nat) : Int) = (t.size : Int) / 256 % 256 := hb 2 (by omega)
    have b3 : ((byt (x ++ frameStr t) (x.size + 3) : Nat) : Int) = (t.size : Int) % 256 := hb 3 (by omega)
    simp only [pre]
    omega
  have hd : dataAt (x ++ frameStr t) x.size = t := by
    unfold dataAt
    rw [hp, show x.size + 8 + t.size = x.size + (8 + t.size) by omega, ext_app]
    unfold frameStr
    have h := ext_app (headStr t) t 0 t.size
    rw [headStr_size] at h
    rw [show (8 : Nat) = 8 + 0 from rfl, h]
    apply text_data
    rw [ext_data, List.drop_zero, List.take_of_length_le (by simp)]
  have hs : (x ++ frameStr t).extract (x.size + 4) (x.size + 8) = sumStr t := by
    rw [ext_app]
    unfold frameStr
    rw [headStr_eq]
    apply text_data
    rw [ext_data, Joins.data_append, Joins.data_append]
    have h4 : (strOfNums (lenNums t.size)).data.toList.length = 4 := by rw [strOfNums_data]; rfl
    have h5 : (sumStr t).data.toList.length = 4 := by have := sumStr_size t; simpa using this
    rw [List.append_assoc, List.drop_append_of_le_length (by omega), List.drop_of_length_le (by omega), List.nil_append, List.take_append_of_le_length (by omega), List.take_of_length_le (by omega)]
  refine ⟨?_, hp, hd, hfz⟩
  rw [frame_long ⟨by rw [ByteArray.size_append, hfz]; omega, by omega, by rw [ByteArray.size_append, hfz]; omega⟩, hd, hs]
  exact decide_eq_true rfl
/-- Of frames one behind the other, and one more, just these are read. -/
theorem frames_more (s t : ByteArray) (ht : t.size ≤ 100000) : framesOf (catF (framesOf s) ++ frameStr t) = framesOf s ++ [t] ∧ framesEnd (catF (framesOf s) ++ frameStr t) = framesEnd s + (frameStr t).size := by
  obtain ⟨h1, h2, _⟩ := cat_frames s
  have hA : (s.extract 0 (framesEnd s)).size = framesEnd s := by rw [ByteArray.size_extract]; omega
  rw [h1]
  obtain ⟨f1, f2, f3, f4⟩ := frame_back (s.extract 0 (framesEnd s)) t ht
  have hu := ext_front (s.extract 0 (framesEnd s)) (frameStr t)
  rw [hA] at f1 f2 f3 hu
  have hz : (s.extract 0 (framesEnd s) ++ frameStr t).size = framesEnd s + (8 + t.size) := by rw [ByteArray.size_append, hA, f4]
  have hp := path s (s.extract 0 (framesEnd s) ++ frameStr t) (s.size + 1) 0 [] (Nat.zero_le _) hu (by show framesEnd s ≤ _; omega) (stands_first _) h2
  have h3 := stands_step hp (by show framesEnd s ≤ _; omega) f1
  have f2' : pre (s.extract 0 (framesEnd s) ++ frameStr t) (takeF s (s.size + 1) 0 []).2 4 = t.size := f2
  have f3' : dataAt (s.extract 0 (framesEnd s) ++ frameStr t) (takeF s (s.size + 1) 0 []).2 = t := f3
  rw [f2', f3'] at h3
  have h4 := stands_end h3 (by show framesEnd s + 8 + t.size ≤ _; omega) (frame_short (by show ¬ (framesEnd s + 8 + t.size + 8 ≤ _ ∧ _); omega))
  refine ⟨h4.1, ?_⟩
  rw [show framesEnd (s.extract 0 (framesEnd s) ++ frameStr t) = framesEnd s + 8 + t.size from h4.2, f4]
  omega
theorem part_go (s v : ByteArray) (k : Nat) (hk : k ≤ s.size) (hv : v = s.extract 0 k) : ∀ f g a out, f ≤ g → out <+: (takeF v f a out).1 ∧ (takeF v f a out).1 <+: (takeF s g a out).1
  | 0, g, a, out, _ => by
    refine ⟨List.prefix_refl _, ?_⟩
    show out <+: _
    exact grows s g a out
  | f + 1, 0, a, out, h => absurd h (by omega)
  | f + 1, g + 1, a, out, h => by
    have hvz : v.size = k := by rw [hv, ByteArray.size_extract]; omega
    have e : takeF v (f + 1) a out = if frameB v a = true then takeF v f (a + 8 + pre v a 4) (out ++ [dataAt v a]) else (out, a) := rfl
    rw [e]
    by_cases hf : frameB v a = true
    · have hz := frame_size hf
      have hag : s.extract 0 k = v.extract 0 k := by rw [hv, ext_sub s 0 k k (Nat.le_refl _)]
      obtain ⟨g1, g2, g3⟩ := frame_agree hag hk (by omega) (by omega : a + 8 + pre v a 4 ≤ k)
      have e2 : takeF s (g + 1) a out = takeF s g (a + 8 + pre v a 4) (out ++ [dataAt v a]) := by
        show (if _ then _ else _) = _
        rw [if_pos (by rw [g3]; exact hf), g1, g2]
      rw [if_pos hf, e2]
      have h' := part_go s v k hk hv f g (a + 8 + pre v a 4) (out ++ [dataAt v a]) (by omega)
      exact ⟨(List.prefix_append _ _).trans h'.1, h'.2⟩
    · rw [if_neg hf]
      exact ⟨List.prefix_refl _, grows s (g + 1) a out⟩
where
  grows (s : ByteArray) : ∀ g a out, out <+: (takeF s g a out).1
    | 0, a, out => List.prefix_refl _
    | g + 1, a, out => by
      show out <+: (if _ then _ else _ : List ByteArray × Nat).1
      split
      · exact (List.prefix_append _ _).trans (grows s g _ _)
      · exact List.prefix_refl _
/-- Of a part of frames one behind the other the first few are read. -/
theorem frames_part (s : ByteArray) (k : Nat) (hk : k ≤ (catF (framesOf s)).size) : framesOf ((catF (framesOf s)).extract 0 k) <+: framesOf s := by
  obtain ⟨h1, h2, _⟩ := cat_frames s
  have hA : (s.extract 0 (framesEnd s)).size = framesEnd s := by rw [ByteArray.size_extract]; omega
  rw [h1, hA] at hk
  rw [h1, ext_sub s 0 k _ hk]
  have h := (part_go s (s.extract 0 k) k (by omega) rfl ((s.extract 0 k).size + 1) (s.size + 1) 0 [] (by rw [ByteArray.size_extract]; omega)).2
  exact h
end Go.Proofs.Ytdmhibdhnejiiab
