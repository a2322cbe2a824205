/- An operation's encoding read back, and what is read written again: mathematics for promise 3's law of operations. -/
import Derived.Test.YtialoobnjfbboaaDoorOpReadW
import Derived.Test.YtialoobnjfbboaaDoorBackMath
namespace Go.Proofs.YtialoobnjfbboaaDoor
open Go.RowKit

theorem num_there {s : ByteArray} {p n : Nat} {t : List UInt8} (h : s.data.toList.drop p = varBytes n ++ t) (hF : Fit n) : NumIs s p n (p + (varBytes n).length) ∧ s.data.toList.drop (p + (varBytes n).length) = t := by
  refine ⟨⟨?_, ?_, ?_⟩, ?_⟩
  · rw [h, rd_var n hF]
  · rw [h, rd_var n hF]
  · rw [h, rd_var n hF]
  · rw [← List.drop_drop, h, List.drop_left]
theorem num_again {s : ByteArray} {p n q : Nat} (h : NumIs s p n q) : s.data.toList.drop p = varBytes n ++ s.data.toList.drop q ∧ Fit n := by
  obtain ⟨hb, hF⟩ := rd_back h.ok
  rw [← h.val] at hb hF
  refine ⟨?_, hF⟩
  rw [hb, h.at', ← List.drop_drop, List.take_append_drop]
theorem txt_there {s : ByteArray} {p : Nat} {x : ByteArray} {t : List UInt8} (h : s.data.toList.drop p = (textBytes x).data.toList ++ t) (hx : x.size ≤ 4000) : TxtIs s p x (p + (textBytes x).size) ∧ s.data.toList.drop (p + (textBytes x).size) = t := by
  have e : cut s p = textBytes x ++ ⟨⟨t⟩⟩ := bytes_ext (by rw [cut_list, h, ByteArray.data_append, Array.toList_append])
  obtain ⟨h1, h2, h3⟩ := text_there x ⟨⟨t⟩⟩ hx
  refine ⟨⟨by rw [e]; exact h1, by rw [e]; exact h3.symm, by rw [e, h2]⟩, ?_⟩
  rw [← List.drop_drop, h, Lib.size_eq, List.drop_left]
theorem txt_again {s : ByteArray} {p : Nat} {x : ByteArray} {q : Nat} (h : TxtIs s p x q) : s.data.toList.drop p = (textBytes x).data.toList ++ s.data.toList.drop q ∧ x.size ≤ 4000 := by
  obtain ⟨h1, h2, h3⟩ := text_again h.ok
  rw [← h.val] at h1 h2
  refine ⟨?_, h2⟩
  rw [h1, ByteArray.data_extract, Array.toList_extract, List.extract_eq_take_drop, List.drop_zero, Nat.sub_zero, cut_list, h.at', ← List.drop_drop, List.take_append_drop]
/-- An operation's encoding, as a list of bytes. -/
def opList (dev seq stamp kind : Int) (item : ByteArray) (qty level undos : Int) : List UInt8 :=
  varBytes dev.toNat ++ (varBytes seq.toNat ++ (varBytes stamp.toNat ++ (varBytes kind.toNat ++ ((textBytes item).data.toList ++ (varBytes qty.toNat ++ (varBytes level.toNat ++ varBytes undos.toNat))))))
theorem op_again {s : ByteArray} {p : Nat} {dev seq stamp kind : Int} {item : ByteArray} {qty level undos : Int} {q : Nat} (h : OpIs s p dev seq stamp kind item qty level undos q) :
    s.data.toList.drop p = opList dev seq stamp kind item qty level undos ++ s.data.toList.drop q := by
  obtain ⟨n0, q1, n1, q2, n2, q3, n3, q4, q5, n5, q6, n6, q7, n7, h0, h1, h2, h3, h4, h5, h6, h7, rfl, rfl, rfl, rfl, rfl, rfl, rfl, _⟩ := h
  unfold opList
  simp only [Int.toNat_natCast, List.append_assoc]
  rw [← (num_again h7).1, ← (num_again h6).1, ← (num_again h5).1, ← (txt_again h4).1, ← (num_again h3).1, ← (num_again h2).1, ← (num_again h1).1, ← (num_again h0).1]
theorem op_there {s : ByteArray} {p : Nat} {dev seq stamp kind : Int} {item : ByteArray} {qty level undos : Int} {t : List UInt8} (h : s.data.toList.drop p = opList dev seq stamp kind item qty level undos ++ t)
    (f0 : 0 ≤ dev ∧ Fit dev.toNat) (f1 : 0 ≤ seq ∧ Fit seq.toNat) (f2 : 0 ≤ stamp ∧ Fit stamp.toNat) (f3 : 0 ≤ kind ∧ Fit kind.toNat) (f4 : item.size ≤ 4000) (f5 : 0 ≤ qty ∧ Fit qty.toNat) (f6 : 0 ≤ level ∧ Fit level.toNat) (f7 : 0 ≤ undos ∧ Fit undos.toNat)
    (hB : opB dev seq stamp kind item qty level undos = true) :
    ∃ q, OpIs s p dev seq stamp kind item qty level undos q ∧ s.data.toList.drop q = t := by
  unfold opList at h
  simp only [List.append_assoc] at h
  obtain ⟨h0, r0⟩ := num_there h f0.2
  obtain ⟨h1, r1⟩ := num_there r0 f1.2
  obtain ⟨h2, r2⟩ := num_there r1 f2.2
  obtain ⟨h3, r3⟩ := num_there r2 f3.2
  obtain ⟨h4, r4⟩ := txt_there r3 f4
  obtain ⟨h5, r5⟩ := num_there r4 f5.2
  obtain ⟨h6, r6⟩ := num_there r5 f6.2
  obtain ⟨h7, r7⟩ := num_there r6 f7.2
  exact ⟨_, ⟨_, _, _, _, _, _, _, _, _, _, _, _, _, _, h0, h1, h2, h3, h4, h5, h6, h7, (Int.toNat_of_nonneg f0.1).symm, (Int.toNat_of_nonneg f1.1).symm, (Int.toNat_of_nonneg f2.1).symm, (Int.toNat_of_nonneg f3.1).symm, (Int.toNat_of_nonneg f5.1).symm, (Int.toNat_of_nonneg f6.1).symm, (Int.toNat_of_nonneg f7.1).symm, hB⟩, r7⟩
end Go.Proofs.YtialoobnjfbboaaDoor
