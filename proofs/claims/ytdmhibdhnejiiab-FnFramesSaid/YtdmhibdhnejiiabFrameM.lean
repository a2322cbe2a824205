/- Plain mathematics of frames: the eight bytes ahead of the data, the frame at a place, the frames from a place on. No program text is reached. -/
import Derived.Test.YtdmhibdhnejiiabSumW
import Derived.Lib.Strings
import Derived.Lib.SmallJoins
import Derived.Lib.Hide
import Derived.Laws.BytesArg
namespace Go.Proofs.Ytdmhibdhnejiiab
open Go.RowKit
set_option linter.unusedVariables false

def lenNums (n : Nat) : List Int := [(n : Int) / 16777216 % 256, (n : Int) / 65536 % 256, (n : Int) / 256 % 256, (n : Int) % 256]
def sumNums (c : Nat) : List Int := [(c : Int) % 256, (c : Int) / 256 % 256, (c : Int) / 65536 % 256, (c : Int) / 16777216 % 256]
def sumStr (d : ByteArray) : ByteArray := strOfNums (sumNums (crc d.data.toList))
def headStr (d : ByteArray) : ByteArray := strOfNums (lenNums d.size ++ sumNums (crc d.data.toList))
def frameStr (d : ByteArray) : ByteArray := headStr d ++ d
theorem sumStr_size (d : ByteArray) : (sumStr d).size = 4 := by unfold sumStr; rw [strOfNums_size]; rfl
theorem headStr_size (d : ByteArray) : (headStr d).size = 8 := by unfold headStr; rw [strOfNums_size]; rfl
theorem text_data {x y : ByteArray} (h : x.data.toList = y.data.toList) : x = y := by
  cases x; cases y
  simpa using h
theorem headStr_eq (d : ByteArray) : headStr d = strOfNums (lenNums d.size) ++ sumStr d := by
  apply text_data
  rw [Joins.data_append]
  unfold headStr sumStr
  rw [strOfNums_data, strOfNums_data, strOfNums_data, List.map_append]
theorem ext_data (s : ByteArray) (a b : Nat) : (s.extract a b).data.toList = (s.data.toList.drop a).take (b - a) := Lib.extract_data s a b

/-- The byte at a place; 0 behind the end. -/
def byt (s : ByteArray) (i : Nat) : Nat := (s.data.toList.getD i 0).toNat
theorem byt_at {s : ByteArray} {i : Nat} (h : i < s.size) : byt s i = s[i].toNat := by
  unfold byt
  rw [List.getD_eq_getElem?_getD, List.getElem?_eq_getElem (by simpa using h)]
  rfl
theorem byt_lt (s : ByteArray) (i : Nat) : byt s i < 256 := by unfold byt; exact UInt8.toNat_lt _
theorem byt_ext {s : ByteArray} {a b i : Nat} (hi : a + i < b) : byt (s.extract a b) i = byt s (a + i) := by
  unfold byt
  rw [ext_data, List.getD_eq_getElem?_getD, List.getD_eq_getElem?_getD, List.getElem?_take_of_lt (by omega), List.getElem?_drop]
/-- The number of the first k of four bytes, the highest first. -/
def pre (s : ByteArray) (at_ : Nat) : Nat → Nat
  | 0 => 0
  | k + 1 => 256 * pre s at_ k + byt s (at_ + k)
theorem pre_lt (s : ByteArray) (at_ : Nat) : pre s at_ 4 < 4294967296 := by
  have h0 := byt_lt s (at_ + 0)
  have h1 := byt_lt s (at_ + 1)
  have h2 := byt_lt s (at_ + 2)
  have h3 := byt_lt s (at_ + 3)
  simp only [pre]
  omega
theorem pre_le (s : ByteArray) (at_ : Nat) : ∀ k, k ≤ 4 → pre s at_ k ≤ 4294967295 := fun k hk => by
  have h0 := byt_lt s (at_ + 0)
  have h1 := byt_lt s (at_ + 1)
  have h2 := byt_lt s (at_ + 2)
  have h3 := byt_lt s (at_ + 3)
  match k, hk with
  | 0, _ => simp only [pre]; omega
  | 1, _ => simp only [pre]; omega
  | 2, _ => simp only [pre]; omega
  | 3, _ => simp only [pre]; omega
  | 4, _ => simp only [pre]; omega
/-- Does the frame at a place bear n bytes of data? -/
def frameB (s : ByteArray) (at_ : Nat) : Bool :=
  decide (at_ + 8 ≤ s.size ∧ pre s at_ 4 ≤ 100000 ∧ at_ + 8 + pre s at_ 4 ≤ s.size) && decide (sumStr (s.extract (at_ + 8) (at_ + 8 + pre s at_ 4)) = s.extract (at_ + 4) (at_ + 8))
def dataAt (s : ByteArray) (at_ : Nat) : ByteArray := s.extract (at_ + 8) (at_ + 8 + pre s at_ 4)
def takeF (s : ByteArray) : Nat → Nat → List ByteArray → List ByteArray × Nat
  | 0, at_, out => (out, at_)
  | f + 1, at_, out => if frameB s at_ = true then takeF s f (at_ + 8 + pre s at_ 4) (out ++ [dataAt s at_]) else (out, at_)
/-- Where a reader of frames stands: what is still to come makes, with what it has, all. -/
def Stands (s : ByteArray) (at_ : Nat) (out : List ByteArray) : Prop := ∃ f, s.size + 1 ≤ f + at_ ∧ takeF s f at_ out = takeF s (s.size + 1) 0 []
theorem stands_first (s : ByteArray) : Stands s 0 [] := ⟨s.size + 1, by omega, rfl⟩
theorem stands_step {s : ByteArray} {at_ : Nat} {out : List ByteArray} (h : Stands s at_ out) (ha : at_ ≤ s.size) (hf : frameB s at_ = true) : Stands s (at_ + 8 + pre s at_ 4) (out ++ [dataAt s at_]) := by
  obtain ⟨f, h1, h2⟩ := h
  obtain ⟨g, rfl⟩ : ∃ g, f = g + 1 := ⟨f - 1, by omega⟩
  refine ⟨g, by omega, ?_⟩
  rw [← h2]
  show _ = if _ then _ else _
  rw [if_pos hf]
theorem stands_end {s : ByteArray} {at_ : Nat} {out : List ByteArray} (h : Stands s at_ out) (ha : at_ ≤ s.size) (hf : frameB s at_ = false) : (takeF s (s.size + 1) 0 []).1 = out ∧ (takeF s (s.size + 1) 0 []).2 = at_ := by
  obtain ⟨f, h1, h2⟩ := h
  obtain ⟨g, rfl⟩ : ∃ g, f = g + 1 := ⟨f - 1, by omega⟩
  rw [← h2]
  show (if _ then _ else _ : List ByteArray × Nat).1 = _ ∧ (if _ then _ else _ : List ByteArray × Nat).2 = _
  rw [if_neg (by rw [hf]; exact Bool.false_ne_true)]
  exact ⟨rfl, rfl⟩
theorem frame_short {s : ByteArray} {at_ : Nat} (h : ¬ (at_ + 8 ≤ s.size ∧ pre s at_ 4 ≤ 100000 ∧ at_ + 8 + pre s at_ 4 ≤ s.size)) : frameB s at_ = false := by
  unfold frameB
  rw [decide_eq_false h]
  rfl
theorem frame_long {s : ByteArray} {at_ : Nat} (h : at_ + 8 ≤ s.size ∧ pre s at_ 4 ≤ 100000 ∧ at_ + 8 + pre s at_ 4 ≤ s.size) : frameB s at_ = decide (sumStr (dataAt s at_) = s.extract (at_ + 4) (at_ + 8)) := by
  unfold frameB
  rw [decide_eq_true h]
  rfl
theorem u8_num (b : UInt8) : UInt8.ofNat (b.toNat : Int).toNat = b := by simp
theorem lenNums_pre (s : ByteArray) (at_ : Nat) (h : at_ + 4 ≤ s.size) : strOfNums (lenNums (pre s at_ 4)) = s.extract at_ (at_ + 4) := by
  apply text_data
  rw [strOfNums_data, ext_data]
  have h0 := byt_lt s (at_ + 0)
  have h1 := byt_lt s (at_ + 1)
  have h2 := byt_lt s (at_ + 2)
  have h3 := byt_lt s (at_ + 3)
  have e : lenNums (pre s at_ 4) = [(byt s (at_ + 0) : Int), (byt s (at_ + 1) : Int), (byt s (at_ + 2) : Int), (byt s (at_ + 3) : Int)] := by
    unfold lenNums
    simp only [pre]
    generalize byt s (at_ + 0) = b0 at *
    generalize byt s (at_ + 1) = b1 at *
    generalize byt s (at_ + 2) = b2 at *
    generalize byt s (at_ + 3) = b3 at *
    congr 1
    · omega
    congr 1
    · omega
    congr 1
    · omega
    congr 1
    omega
  have hb : ∀ i, i < s.size → UInt8.ofNat ((byt s i : Nat) : Int).toNat = s.data.toList.getD i 0 := fun i hi => by unfold byt; exact u8_num _
  rw [e]
  simp only [List.map_cons, List.map_nil]
  rw [hb _ (by omega), hb _ (by omega), hb _ (by omega), hb _ (by omega)]
  have hl : s.data.toList.length = s.size := by simp
  have gd : ∀ j, j < s.size → s.data.toList[j]? = some (s.data.toList.getD j 0) := fun j hj => by
    rw [List.getD_eq_getElem?_getD, List.getElem?_eq_getElem (by rw [hl]; exact hj)]; rfl
  apply List.ext_getElem?
  intro i
  rw [show at_ + 4 - at_ = 4 by omega]
  match i with
  | 0 => rw [List.getElem?_take_of_lt (by omega), List.getElem?_drop, gd _ (by omega)]; rfl
  | 1 => rw [List.getElem?_take_of_lt (by omega), List.getElem?_drop, gd _ (by omega)]; rfl
  | 2 => rw [List.getElem?_take_of_lt (by omega), List.getElem?_drop, gd _ (by omega)]; rfl
  | 3 => rw [List.getElem?_take_of_lt (by omega), List.getElem?_drop, gd _ (by omega)]; rfl
  | j + 4 =>
    rw [List.getElem?_eq_none (by simp), List.getElem?_eq_none (by simp; omega)]
theorem dataAt_size {s : ByteArray} {at_ : Nat} (h : at_ + 8 + pre s at_ 4 ≤ s.size) : (dataAt s at_).size = pre s at_ 4 := by
  unfold dataAt
  rw [ByteArray.size_extract]
  omega
/-- The eight bytes at a place are those of the data behind them just where the last four are its sum. -/
theorem head_iff {s : ByteArray} {at_ : Nat} (h : at_ + 8 ≤ s.size ∧ pre s at_ 4 ≤ 100000 ∧ at_ + 8 + pre s at_ 4 ≤ s.size) :
    ((headStr (dataAt s at_)).toList == (s.extract at_ (at_ + 8)).toList) = frameB s at_ := by
  rw [frame_long h, Bool.eq_iff_iff, beq_iff_eq, decide_eq_true_eq]
  have e1 : s.extract at_ (at_ + 8) = s.extract at_ (at_ + 4) ++ s.extract (at_ + 4) (at_ + 8) := by
    apply text_data
    rw [Joins.data_append, ext_data, ext_data, ext_data, show at_ + 8 - at_ = 4 + 4 by omega, show at_ + 4 - at_ = 4 by omega, show at_ + 8 - (at_ + 4) = 4 by omega, List.take_add, List.drop_drop]
  rw [headStr_eq, dataAt_size h.2.2, lenNums_pre s at_ (by omega), e1, Lib.toList_data, Lib.toList_data, Joins.data_append, Joins.data_append]
  constructor
  · intro h'
    exact text_data (List.append_cancel_left h')
  · intro h'
    rw [h']
theorem ext_ext (s : ByteArray) (a b c : Nat) (hb : b ≤ c) (hc : a + c ≤ s.size) : (s.extract a s.size).extract b c = s.extract (a + b) (a + c) := by
  apply text_data
  rw [ext_data, ext_data, ext_data, List.drop_take, List.drop_drop, List.take_take]
  congr 1
  omega
theorem pre_ext {s : ByteArray} {a : Nat} (h : a + 8 ≤ s.size) : ∀ k, k ≤ 4 → pre (s.extract a s.size) 0 k = pre s a k
  | 0, _ => rfl
  | k + 1, hk => by
    rw [pre, pre, pre_ext h k (by omega), byt_ext (by omega), Nat.zero_add]
end Go.Proofs.Ytdmhibdhnejiiab
