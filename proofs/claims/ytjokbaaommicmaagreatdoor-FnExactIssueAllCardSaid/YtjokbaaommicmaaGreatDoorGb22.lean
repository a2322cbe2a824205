/- Walks and mathematics that several claims share, part 22. -/
import Derived.Test.YtjokbaaommicmaaGreatDoorGb4
import Derived.Test.YtjokbaaommicmaaGreatDoorGb7
import Derived.Test.YtjokbaaommicmaaGreatDoorGb15
import Derived.Test.YtjokbaaommicmaaGreatDoorGbA
namespace Go.Proofs.YtjokbaaommicmaaGreatDoor
open Go.RowKit Go.Maps

theorem encStr_map (l : List (List UInt8)) : l.map Go.Proofs.encStr = (l.map txt).map Value.string := by
 rw [List.map_map]
 rfl
/-- What slices.Sorted(maps.Keys(m)) hands back: the keys, ascending. -/
def KeysPost (b : Nat) (w w1 : World) (f : ByteArray → Option Value) (e : Ending) (w' : World) : Prop :=
 ∃ ks a c, e = .returned (.slice a ks.length c) ∧ ks.length ≤ b ∧ Asc ks ∧ (∀ s, s ∈ ks ↔ FitT s ∧ (f s).isSome = true) ∧ OwnStrs w' w1.heap.size w'.heap.size a ks.length ks ∧ Below w.heap.size w w'
theorem keysW (mb : Option Nat) (W : World) : Calls Tryz.prog 130 #[.map mb] W fun e w' => e = .returned (.func (.func 142) #[] #[.pointer (some ⟨W.heap.size, 0, none⟩)]) ∧ w' = W.alloc (.cells #[.map mb] 192) :=
 callsIn_wide.1 (Tryz.maps_Keys_130 mb W)
theorem sortedW (w : World) (b n : Nat) (f : ByteArray → Option Value) (h : TMap w b n f) (hn : n ≤ 1048576) :
  Calls Tryz.prog 129 #[.func (.func 142) #[] #[.pointer (some ⟨w.heap.size, 0, none⟩)]] (w.alloc (.cells #[.map (some b)] 192)) (KeysPost n w (w.alloc (.cells #[.map (some b)] 192)) f) := by
 obtain ⟨D, h1, h2⟩ := h
 have hs := h1.size_le
 refine (callsIn_wide.1 (Tryz.slices_Sorted_keys_129_130 b n D heldR w h1 (by unfold maxLen; omega) (by omega))).mono ?_
 rintro e w' ⟨v, ss, rfl, hp, hrow, hnil, hb⟩
 obtain ⟨k1, k2⟩ := TMap.keys h1 (fun s hf => (h2 s hf).1) hp
 have hl : ((ss.mergeSort (fun x y => decide (x ≤ y))).map txt).length = ss.length := by simp
 rw [encStr_map] at hrow
 obtain ⟨a, c, rfl, ho⟩ := ownStrs_of_row hrow
 refine ⟨_, a, c, by rw [hl], ?_, k1, k2, by rw [hl]; exact ho, ((Below.refl _ w).alloc (Nat.le_refl _) _).trans (hb.mono (by simp))⟩
 rw [hl, hp.length_eq]
 obtain ⟨es, hD, _⟩ := h1.entries textKeyed
 have hsz : (strKeys D).length = Maps.size D := by rw [hD]; show (es.map _).length = _; simp [Maps.size]
 omega
end Go.Proofs.YtjokbaaommicmaaGreatDoor
